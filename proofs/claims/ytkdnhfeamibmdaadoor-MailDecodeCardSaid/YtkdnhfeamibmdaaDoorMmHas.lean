/-
  Epoch, Stream and Ints of the document's records. Log of the document's records: may the entries be, of a stream, so many at most? May of the document's records: the kinds that have no feed. May of the document's records: a feed; and whole. Check. What the document's mail asks of numbers; its log; what a kind has.
-/
import Derived.Test.YtkdnhfeamibmdaaDoorRcAsk
import Derived.Test.YtkdnhfeamibmdaaDoorRcPut
import Derived.Test.YtkdnhfeamibmdaaDoorRcNext
import Derived.Test.YtkdnhfeamibmdaaDoorORMay
import Derived.Test.YtkdnhfeamibmdaaDoorMlMem
import Derived.Laws.ResultCell
namespace Go.Proofs.YtkdnhfeamibmdaaDoor
open Go.RowKit Go.Sort
set_option maxRecDepth 100000 in
set_option maxHeartbeats 1000000 in
theorem repoch_any (n a : Int) (w : World) : Calls Tryd.prog 57 #[.int .i64 n, .int .i64 a] w fun e w' => w = w' ∧ e = .returned (.bool (inb a 1048576 n)) := by
  have HI : Hid (inb a 1048576 n = (decide (a ≤ n) && decide (n ≤ 1048576))) := rfl
  generalize inb a 1048576 n = r at *
  by_cases h1 : a ≤ n
  · have t1 : decide (a ≤ n) = true := decide_eq_true h1
    by_cases h2 : n ≤ 1048576
    · have t2 : decide (n ≤ 1048576) = true := decide_eq_true h2
      go_enter Tryd.func57, Tryd.ntmps57
      go_wp2_with fail
      go_ret
      exact ⟨rfl, by rw [HI.out, t1, t2]; rfl⟩
    · have t2 : decide (n ≤ 1048576) = false := decide_eq_false h2
      go_enter Tryd.func57, Tryd.ntmps57
      go_wp2_with fail
      go_ret
      exact ⟨rfl, by rw [HI.out, t1, t2]; rfl⟩
  · have t1 : decide (a ≤ n) = false := decide_eq_false h1
    go_enter Tryd.func57, Tryd.ntmps57
    go_wp2_with fail
    go_ret
    exact ⟨rfl, by rw [HI.out, t1]; rfl⟩
set_option maxRecDepth 100000 in
set_option maxHeartbeats 1000000 in
theorem rstream_any (n : Int) (w : World) : Calls Tryd.prog 56 #[.int .i64 n] w fun e w' => w = w' ∧ e = .returned (.bool (inb 0 3 n)) := by
  have HI : Hid (inb 0 3 n = (decide (0 ≤ n) && decide (n < 4))) := by
    show _ = _
    unfold inb
    congr 1
    rw [Bool.eq_iff_iff, decide_eq_true_eq, decide_eq_true_eq]; omega
  generalize inb 0 3 n = r at *
  by_cases h1 : 0 ≤ n
  · have t1 : decide (0 ≤ n) = true := decide_eq_true h1
    by_cases h2 : n < 4
    · have t2 : decide (n < 4) = true := decide_eq_true h2
      go_enter Tryd.func56, Tryd.ntmps56
      go_wp2_with fail
      go_ret
      exact ⟨rfl, by rw [HI.out, t1, t2]; rfl⟩
    · have t2 : decide (n < 4) = false := decide_eq_false h2
      go_enter Tryd.func56, Tryd.ntmps56
      go_wp2_with fail
      go_ret
      exact ⟨rfl, by rw [HI.out, t1, t2]; rfl⟩
  · have t1 : decide (0 ≤ n) = false := decide_eq_false h1
    go_enter Tryd.func56, Tryd.ntmps56
    go_wp2_with fail
    go_ret
    exact ⟨rfl, by rw [HI.out, t1]; rfl⟩
set_option maxRecDepth 100000 in
set_option maxHeartbeats 1000000 in
theorem rints_any {g : Nat} {ns : List Int} {w : World} (hr : IntRow w g ns) (hi : IntsOk ns) (hn : ns.length ≤ 1000) :
    Calls Tryd.prog 33 #[.slice (some ⟨g, 0, none⟩) ns.length ns.length] w (StrPost ⟨(markL ns).toArray⟩ w) := by
  have HR := Lib.hid hr
  have HI := Lib.hid hi
  have HML := Lib.hid (fun k => Nat.le_trans (markL_take_le ns k) (markL_len hi).2)
  clear hr hi
  go_enter Tryd.func33, Tryd.ntmps33
  go_wp2_with fail
  go_loopw [3, 4] (fun s i wr => ∃ (k : Nat) (S : ByteArray), k ≤ ns.length ∧ i = .int .i64 k ∧ s = .string S ∧ Hid (S = ⟨(markL (ns.take k)).toArray⟩) ∧ Below w.heap.size w wr) (fun _ i _ => ns.length - (intOf i).toNat)
  case atStart => exact ⟨0, ⟨#[]⟩, Nat.zero_le _, rfl, rfl, Lib.hid (by simp [markL]), Below.refl _ _⟩
  case round =>
    obtain ⟨k, S, hk, rfl, rfl, hS, hb⟩ := hrel
    by_cases hlt : k < ns.length
    · have hc := (HR.out.below hb).cell hlt
      have hii : (k : Int) < (ns.length : Int) := by omega
      have hbd := HI.out ns[k] (List.getElem_mem hlt)
      have HT := Lib.hid (markL_take hlt)
      have hml := HML.out k
      have hs1 : S.size ≤ 10000 := by
        rw [hS.out]
        show (markL (ns.take k)).toArray.size ≤ 10000
        rw [List.size_toArray]; omega
      obtain ⟨S2, hS2, lS⟩ := mark_name hbd.1 hbd.2
      have G1 : Hid (∀ X, Calls Tryd.prog 59 #[.int .i64 ns[k]] X (StrPost S2 X)) := fun X => (rput_any ns[k] X hbd.1 hbd.2).mono fun e w' h => by rw [hS2.out]; exact h
      have HS : Hid (S ++ S2 = ⟨(markL (ns.take (k + 1))).toArray⟩) := by show _ = _; rw [hS.out, hS2.out, str_mk, HT.out]
      generalize ns[k] = x at *
      have HB := Lib.hid hb
      clear hb hS hS2 hbd
      go_wp2_with fail
      refine (G1.out _).mono ?_
      rintro e w1 ⟨rfl, hb1⟩
      have HB1 := Lib.hid (HB.out.trans (hb1.mono HB.out.size))
      clear hb1
      go_wp2_with fail
      go_roundw
      case rel => exact ⟨k + 1, S ++ S2, by omega, by go_num, rfl, HS, HB1.out⟩
      case measure => simp [intOf]; omega
    · have HX : Hid (S = ⟨(markL ns).toArray⟩) := by show _ = _; rw [hS.out, List.take_of_length_le (by omega)]
      have HB := Lib.hid hb
      clear hb hS
      go_wp2_with fail
      go_ret
      exact ⟨by rw [← HX.out]; rfl, HB.out⟩
end Go.Proofs.YtkdnhfeamibmdaaDoor
namespace Go.Proofs.YtkdnhfeamibmdaaDoor
open Go.RowKit Go.Sort
theorem rall_no {α : Type} {f : α → Bool} {l : List α} {k : Nat} (hk : k < l.length) (h : f l[k] = false) : l.all f = false := by
  rw [List.all_eq_false]
  exact ⟨l[k], List.getElem_mem hk, by rw [h]; simp⟩
theorem rall_step {α : Type} {f : α → Bool} {l : List α} {k : Nat} (hk : k < l.length) (h : (l.take k).all f = true) (h2 : f l[k] = true) : (l.take (k + 1)).all f = true := by
  rw [List.take_succ_eq_append_getElem hk, List.all_append, h]
  simp [h2]
set_option maxRecDepth 100000 in
set_option maxHeartbeats 4000000 in
theorem rlogf_any {es : List En} {v : Value} {w : World} (hE : EsB w.heap.size w v es) (st most : Int) :
    Calls Tryd.prog 58 #[v, .int .i64 st, .int .i64 most] w (NumPost (.bool (decide ((es.length : Int) ≤ most) && es.all (En.may st))) w) := by
  have HC := Lib.hid (fun X (hb : Below w.heap.size w X) k (hk : k < es.length) => EsB.cells (hE.below hb (Nat.le_refl _)) hk)
  obtain ⟨A, c, rfl, h1, h2, -⟩ := hE.len
  unfold maxLen at h2
  clear hE
  by_cases hm : most < (es.length : Int)
  · have u : decide (most < (es.length : Int)) = true := decide_eq_true hm
    have hr : (decide ((es.length : Int) ≤ most) && es.all (En.may st)) = false := by rw [decide_eq_false (by omega)]; rfl
    rw [hr]
    clear hr
    go_enter Tryd.func58, Tryd.ntmps58
    go_wp2_with fail
    go_ret
    exact ⟨rfl, Below.refl _ _⟩
  have u : decide (most < (es.length : Int)) = false := decide_eq_false hm
  have hr : (decide ((es.length : Int) ≤ most) && es.all (En.may st)) = es.all (En.may st) := by rw [decide_eq_true (by omega)]; rfl
  rw [hr]
  clear hr hm
  have HG := Lib.hid (fun (o : Od) X => rmay_any o X)
  go_enter Tryd.func58, Tryd.ntmps58
  go_wp2_with fail
  go_loopw [7] (fun i wr => ∃ k : Nat, k ≤ es.length ∧ i = .int .i64 k ∧ Hid ((es.take k).all (En.may st) = true) ∧ Hid (Below w.heap.size w wr)) (fun i _ => es.length - (intOf i).toNat)
  case atStart => exact ⟨0, Nat.zero_le _, rfl, Lib.hid rfl, Lib.hid (Below.refl _ _)⟩
  case round =>
    obtain ⟨k, hk, rfl, HALL, HBE⟩ := hrel
    by_cases hlt : k < es.length
    · obtain ⟨b1, o1, c1', hv, hbb1, x0, x1, x2, x3, x4, x5⟩ := HC.out wr HBE.out k hlt
      injection hv with e1 e2 e3
      subst e1 e3
      clear e2
      have hii : (k : Int) < (es.length : Int) := by omega
      have HNO := Lib.hid (fun h => rall_no (f := En.may st) hlt h)
      have HYES := Lib.hid (fun h => rall_step (f := En.may st) hlt HALL.out h)
      generalize es[k] = x at *
      obtain ⟨ep, oi, os_, oe, ok, oa⟩ := x
      have HME : Hid (En.may st ⟨ep, oi, os_, oe, ok, oa⟩ = (decide (1 ≤ ep ∧ ep ≤ 1048576) && (decide (os_ = st) && (Od.mk oi os_ oe ok oa).may))) := rfl
      have HEP := Lib.hid (fun X => repoch_any ep 1 X)
      have HO := Lib.hid (HG.out ⟨oi, os_, oe, ok, oa⟩)
      simp only [Od.v] at HO
      have hin : inb 1 1048576 ep = decide (1 ≤ ep ∧ ep ≤ 1048576) := by unfold inb; simp
      rw [hin] at HEP
      clear hin
      simp only at x0 x1 x2 x3 x4 x5
      generalize (Od.mk oi os_ oe ok oa).may = my at *
      by_cases hep : ¬ (1 ≤ ep ∧ ep ≤ 1048576)
      · have hd : decide (1 ≤ ep ∧ ep ≤ 1048576) = false := decide_eq_false hep
        have HF := Lib.hid (HNO.out (by rw [HME.out, hd]; rfl))
        rw [hd] at HEP
        clear hd hep HME HNO HYES
        go_wp2_with fail
        refine (HEP.out _).mono ?_
        rintro e w' ⟨rfl, rfl⟩
        go_wp2_with fail
        go_ret
        exact ⟨ret_bool HF.out.symm, HBE.out⟩
      have hd : decide (1 ≤ ep ∧ ep ≤ 1048576) = true := decide_eq_true (Decidable.not_not.1 hep)
      rw [hd] at HEP HME
      clear hd hep
      cases my
      · have HF := Lib.hid (HNO.out (by rw [HME.out]; simp))
        clear HME HNO HYES
        go_wp2_with fail
        refine (HEP.out _).mono ?_
        rintro e w' ⟨rfl, rfl⟩
        go_wp2_with fail
        refine (HO.out _).mono ?_
        rintro e w5 ⟨rfl, hb⟩
        have HB5 := Lib.hid (HBE.out.trans (hb.mono HBE.out.size))
        clear hb
        go_wp2_with fail
        go_ret
        exact ⟨ret_bool HF.out.symm, HB5.out⟩
      by_cases hs : os_ = st
      · subst hs
        have HT := Lib.hid (HYES.out (by rw [HME.out]; simp))
        clear HME HNO HYES
        go_wp2_with fail
        refine (HEP.out _).mono ?_
        rintro e w' ⟨rfl, rfl⟩
        go_wp2_with fail
        refine (HO.out _).mono ?_
        rintro e w5 ⟨rfl, hb⟩
        have HB5 := Lib.hid (HBE.out.trans (hb.mono HBE.out.size))
        have hbl : b1 < wr.heap.size := Nat.lt_of_lt_of_le hbb1 HBE.out.size
        have y2 := (hb.cell (p := ⟨b1, o1 + k * 6 + 2, none⟩) hbl).trans x2
        clear hb
        go_wp2_with fail
        go_roundw
        case rel => exact ⟨k + 1, by omega, by go_num, HT, HB5⟩
        case measure => simp [intOf]; omega
      · have u2 : (os_ != st) = true := by simpa using hs
        have HF := Lib.hid (HNO.out (by rw [HME.out, decide_eq_false hs]; rfl))
        clear HME HNO HYES hs
        go_wp2_with fail
        refine (HEP.out _).mono ?_
        rintro e w' ⟨rfl, rfl⟩
        go_wp2_with fail
        refine (HO.out _).mono ?_
        rintro e w5 ⟨rfl, hb⟩
        have HB5 := Lib.hid (HBE.out.trans (hb.mono HBE.out.size))
        have hbl : b1 < wr.heap.size := Nat.lt_of_lt_of_le hbb1 HBE.out.size
        have y2 := (hb.cell (p := ⟨b1, o1 + k * 6 + 2, none⟩) hbl).trans x2
        clear hb
        go_wp2_with fail
        go_ret
        exact ⟨ret_bool HF.out.symm, HB5.out⟩
    · have HX : Hid (es.all (En.may st) = true) := by show _ = _; rw [← HALL.out, List.take_of_length_le (by omega)]
      clear hk
      go_wp2_with fail
      go_ret
      exact ⟨ret_bool HX.out.symm, HBE.out⟩
end Go.Proofs.YtkdnhfeamibmdaaDoor
namespace Go.Proofs.YtkdnhfeamibmdaaDoor
open Go.RowKit Go.Sort
theorem may_bool {b : Bool} {P : Prop} [Decidable P] {ea fa : Bool} (h : b = true ↔ (P ∧ ea = true ∧ fa = true)) : b = (decide P && (ea && fa)) := by
  rw [Bool.eq_iff_iff, h]; simp
set_option maxRecDepth 100000 in
set_option maxHeartbeats 8000000 in
theorem rmay_1 (st ep vi fr le : Int) (n m c c' : Nat) (A A' : Option Addr) (ea fa : Bool) (w : World) (h0 : n = 0 → ea = true) (h0' : m = 0 → fa = true)
    (HL : Hid (∀ (X : World) (most : Int), Below w.heap.size w X → Calls Tryd.prog 58 #[.slice A n c, .int .i64 st, .int .i64 most] X (NumPost (.bool (decide ((n : Int) ≤ most) && ea)) X))) :
    Calls Tryd.prog 32 #[.agg #[.int .i64 1, .int .i64 st, .int .i64 ep, .int .i64 vi, .int .i64 fr, .int .i64 le, .slice A n c, .slice A' m c']] w (NumPost (.bool (decide (numsM 1 st ep vi fr le n m) && (ea && fa))) w) := by
  obtain ⟨mb, HM⟩ : ∃ mb, Hid (mb = (decide (numsM 1 st ep vi fr le n m) && (ea && fa))) := ⟨_, Lib.hid rfl⟩
  rw [← HM.out]
  have H0 := Lib.hid h0
  have H0' := Lib.hid h0'
  clear h0 h0'
  go_enter Tryd.func32, Tryd.ntmps32
  go_wp2_with (first | (go_at_call 56; (refine (rstream_any _ _).mono ?_); rintro e w' ⟨rfl, rfl⟩) | (go_at_call 57; (refine (repoch_any _ _ _).mono ?_); rintro e w' ⟨rfl, rfl⟩) | (go_at_call 58; (refine (HL.out _ _ ((Below.refl _ _).alloc (Nat.le_refl _) _)).mono ?_); rintro e w5 ⟨rfl, hb⟩; have HB5 := Lib.hid (((Below.refl _ _).alloc (Nat.le_refl _) _ : Below w.heap.size w _).trans (hb.mono (by simp))); have HX5 := Lib.hid ((hb.block w.heap.size (by simp)).trans (heap_alloc_new _ _)); have d5 : w5.cell? ⟨w.heap.size, 5, none⟩ = some (.int .i64 le) := (by rw [Lib.cell_of_heap HX5.out]; rfl); have d6 : w5.cell? ⟨w.heap.size, 6, none⟩ = some (.slice A n c) := (by rw [Lib.cell_of_heap HX5.out]; rfl); clear hb))
  all_goals
    go_ret
    refine ⟨ret_bool ((may_bool ?_).trans HM.out.symm), by first | exact HB5.out | exact (Below.refl _ _).alloc (Nat.le_refl _) _⟩
    have h0 := H0.out
    have h0' := H0'.out
    clear H0 H0' HM
    (try clear HX5 HB5 d5 d6)
    cases ea <;> cases fa <;> simp [numsM, inb] at * <;> omega
set_option maxRecDepth 100000 in
set_option maxHeartbeats 8000000 in
theorem rmay_2 (st ep vi fr le : Int) (n m c c' : Nat) (A A' : Option Addr) (ea fa : Bool) (w : World) (h0 : n = 0 → ea = true) (h0' : m = 0 → fa = true)
    (HL : Hid (∀ (X : World) (most : Int), Below w.heap.size w X → Calls Tryd.prog 58 #[.slice A n c, .int .i64 st, .int .i64 most] X (NumPost (.bool (decide ((n : Int) ≤ most) && ea)) X))) :
    Calls Tryd.prog 32 #[.agg #[.int .i64 2, .int .i64 st, .int .i64 ep, .int .i64 vi, .int .i64 fr, .int .i64 le, .slice A n c, .slice A' m c']] w (NumPost (.bool (decide (numsM 2 st ep vi fr le n m) && (ea && fa))) w) := by
  obtain ⟨mb, HM⟩ : ∃ mb, Hid (mb = (decide (numsM 2 st ep vi fr le n m) && (ea && fa))) := ⟨_, Lib.hid rfl⟩
  rw [← HM.out]
  have H0 := Lib.hid h0
  have H0' := Lib.hid h0'
  clear h0 h0'
  go_enter Tryd.func32, Tryd.ntmps32
  go_wp2_with (first | (go_at_call 56; (refine (rstream_any _ _).mono ?_); rintro e w' ⟨rfl, rfl⟩) | (go_at_call 57; (refine (repoch_any _ _ _).mono ?_); rintro e w' ⟨rfl, rfl⟩) | (go_at_call 58; (refine (HL.out _ _ ((Below.refl _ _).alloc (Nat.le_refl _) _)).mono ?_); rintro e w5 ⟨rfl, hb⟩; have HB5 := Lib.hid (((Below.refl _ _).alloc (Nat.le_refl _) _ : Below w.heap.size w _).trans (hb.mono (by simp))); clear hb))
  all_goals
    go_ret
    refine ⟨ret_bool ((may_bool ?_).trans HM.out.symm), by first | exact HB5.out | exact (Below.refl _ _).alloc (Nat.le_refl _) _⟩
    have h0 := H0.out
    have h0' := H0'.out
    clear H0 H0' HM
    (try clear HX5 HB5 d5 d6)
    cases ea <;> cases fa <;> simp [numsM, inb] at * <;> omega
set_option maxRecDepth 100000 in
set_option maxHeartbeats 8000000 in
theorem rmay_3 (st ep vi fr le : Int) (n m c c' : Nat) (A A' : Option Addr) (ea fa : Bool) (w : World) (h0 : n = 0 → ea = true) (h0' : m = 0 → fa = true)
    (HL : Hid (∀ (X : World) (most : Int), Below w.heap.size w X → Calls Tryd.prog 58 #[.slice A n c, .int .i64 st, .int .i64 most] X (NumPost (.bool (decide ((n : Int) ≤ most) && ea)) X))) :
    Calls Tryd.prog 32 #[.agg #[.int .i64 3, .int .i64 st, .int .i64 ep, .int .i64 vi, .int .i64 fr, .int .i64 le, .slice A n c, .slice A' m c']] w (NumPost (.bool (decide (numsM 3 st ep vi fr le n m) && (ea && fa))) w) := by
  obtain ⟨mb, HM⟩ : ∃ mb, Hid (mb = (decide (numsM 3 st ep vi fr le n m) && (ea && fa))) := ⟨_, Lib.hid rfl⟩
  rw [← HM.out]
  have H0 := Lib.hid h0
  have H0' := Lib.hid h0'
  clear h0 h0'
  go_enter Tryd.func32, Tryd.ntmps32
  go_wp2_with (first | (go_at_call 56; (refine (rstream_any _ _).mono ?_); rintro e w' ⟨rfl, rfl⟩) | (go_at_call 57; (refine (repoch_any _ _ _).mono ?_); rintro e w' ⟨rfl, rfl⟩) | (go_at_call 58; (refine (HL.out _ _ ((Below.refl _ _).alloc (Nat.le_refl _) _)).mono ?_); rintro e w5 ⟨rfl, hb⟩; have HB5 := Lib.hid (((Below.refl _ _).alloc (Nat.le_refl _) _ : Below w.heap.size w _).trans (hb.mono (by simp))); have HX5 := Lib.hid ((hb.block w.heap.size (by simp)).trans (heap_alloc_new _ _)); have d5 : w5.cell? ⟨w.heap.size, 5, none⟩ = some (.int .i64 le) := (by rw [Lib.cell_of_heap HX5.out]; rfl); have d6 : w5.cell? ⟨w.heap.size, 6, none⟩ = some (.slice A n c) := (by rw [Lib.cell_of_heap HX5.out]; rfl); clear hb))
  all_goals
    go_ret
    refine ⟨ret_bool ((may_bool ?_).trans HM.out.symm), by first | exact HB5.out | exact (Below.refl _ _).alloc (Nat.le_refl _) _⟩
    have h0 := H0.out
    have h0' := H0'.out
    clear H0 H0' HM
    (try clear HX5 HB5 d5 d6)
    cases ea <;> cases fa <;> simp [numsM, inb] at * <;> omega
set_option maxRecDepth 100000 in
set_option maxHeartbeats 8000000 in
theorem rmay_4 (st ep vi fr le : Int) (n m c c' : Nat) (A A' : Option Addr) (ea fa : Bool) (w : World) (h0 : n = 0 → ea = true) (h0' : m = 0 → fa = true)
    (HL : Hid (∀ (X : World) (most : Int), Below w.heap.size w X → Calls Tryd.prog 58 #[.slice A n c, .int .i64 st, .int .i64 most] X (NumPost (.bool (decide ((n : Int) ≤ most) && ea)) X))) :
    Calls Tryd.prog 32 #[.agg #[.int .i64 4, .int .i64 st, .int .i64 ep, .int .i64 vi, .int .i64 fr, .int .i64 le, .slice A n c, .slice A' m c']] w (NumPost (.bool (decide (numsM 4 st ep vi fr le n m) && (ea && fa))) w) := by
  obtain ⟨mb, HM⟩ : ∃ mb, Hid (mb = (decide (numsM 4 st ep vi fr le n m) && (ea && fa))) := ⟨_, Lib.hid rfl⟩
  rw [← HM.out]
  have H0 := Lib.hid h0
  have H0' := Lib.hid h0'
  clear h0 h0'
  go_enter Tryd.func32, Tryd.ntmps32
  go_wp2_with (first | (go_at_call 56; (refine (rstream_any _ _).mono ?_); rintro e w' ⟨rfl, rfl⟩) | (go_at_call 57; (refine (repoch_any _ _ _).mono ?_); rintro e w' ⟨rfl, rfl⟩) | (go_at_call 58; (refine (HL.out _ _ ((Below.refl _ _).alloc (Nat.le_refl _) _)).mono ?_); rintro e w5 ⟨rfl, hb⟩; have HB5 := Lib.hid (((Below.refl _ _).alloc (Nat.le_refl _) _ : Below w.heap.size w _).trans (hb.mono (by simp))); have HX5 := Lib.hid ((hb.block w.heap.size (by simp)).trans (heap_alloc_new _ _)); have d5 : w5.cell? ⟨w.heap.size, 5, none⟩ = some (.int .i64 le) := (by rw [Lib.cell_of_heap HX5.out]; rfl); have d6 : w5.cell? ⟨w.heap.size, 6, none⟩ = some (.slice A n c) := (by rw [Lib.cell_of_heap HX5.out]; rfl); clear hb))
  all_goals
    go_ret
    refine ⟨ret_bool ((may_bool ?_).trans HM.out.symm), by first | exact HB5.out | exact (Below.refl _ _).alloc (Nat.le_refl _) _⟩
    have h0 := H0.out
    have h0' := H0'.out
    clear H0 H0' HM
    (try clear HX5 HB5 d5 d6)
    cases ea <;> cases fa <;> simp [numsM, inb] at * <;> omega
set_option maxRecDepth 100000 in
set_option maxHeartbeats 8000000 in
theorem rmay_e (ki st ep vi fr le : Int) (n m c c' : Nat) (A A' : Option Addr) (ea fa : Bool) (w : World) (h0 : n = 0 → ea = true) (h0' : m = 0 → fa = true)
    (HL : Hid (∀ (X : World) (most : Int), Below w.heap.size w X → Calls Tryd.prog 58 #[.slice A n c, .int .i64 st, .int .i64 most] X (NumPost (.bool (decide ((n : Int) ≤ most) && ea)) X))) (h1 : (ki == 1) = false) (h2 : (ki == 2) = false) (h3 : (ki == 3) = false) (h4 : (ki == 4) = false) (h5 : (ki == 5) = false) (h6 : (ki != 5) = true) :
    Calls Tryd.prog 32 #[.agg #[.int .i64 ki, .int .i64 st, .int .i64 ep, .int .i64 vi, .int .i64 fr, .int .i64 le, .slice A n c, .slice A' m c']] w (NumPost (.bool (decide (numsM ki st ep vi fr le n m) && (ea && fa))) w) := by
  obtain ⟨mb, HM⟩ : ∃ mb, Hid (mb = (decide (numsM ki st ep vi fr le n m) && (ea && fa))) := ⟨_, Lib.hid rfl⟩
  rw [← HM.out]
  have H0 := Lib.hid h0
  have H0' := Lib.hid h0'
  clear h0 h0'
  go_enter Tryd.func32, Tryd.ntmps32
  go_wp2_with (first | (go_at_call 56; (refine (rstream_any _ _).mono ?_); rintro e w' ⟨rfl, rfl⟩) | (go_at_call 57; (refine (repoch_any _ _ _).mono ?_); rintro e w' ⟨rfl, rfl⟩) | (go_at_call 58; (refine (HL.out _ _ ((Below.refl _ _).alloc (Nat.le_refl _) _)).mono ?_); rintro e w5 ⟨rfl, hb⟩; have HB5 := Lib.hid (((Below.refl _ _).alloc (Nat.le_refl _) _ : Below w.heap.size w _).trans (hb.mono (by simp))); have HX5 := Lib.hid ((hb.block w.heap.size (by simp)).trans (heap_alloc_new _ _)); have d5 : w5.cell? ⟨w.heap.size, 5, none⟩ = some (.int .i64 le) := (by rw [Lib.cell_of_heap HX5.out]; rfl); have d6 : w5.cell? ⟨w.heap.size, 6, none⟩ = some (.slice A n c) := (by rw [Lib.cell_of_heap HX5.out]; rfl); clear hb))
  all_goals
    go_ret
    refine ⟨ret_bool ((may_bool ?_).trans HM.out.symm), by first | exact HB5.out | exact (Below.refl _ _).alloc (Nat.le_refl _) _⟩
    have h0 := H0.out
    have h0' := H0'.out
    clear H0 H0' HM
    (try clear HX5 HB5 d5 d6)
    cases ea <;> cases fa <;> simp [numsM, inb] at * <;> omega
end Go.Proofs.YtkdnhfeamibmdaaDoor
namespace Go.Proofs.YtkdnhfeamibmdaaDoor
open Go.RowKit Go.Sort
set_option maxRecDepth 100000 in
set_option maxHeartbeats 8000000 in
theorem rmay_5no (st ep vi fr le : Int) (n m c c' : Nat) (A A' : Option Addr) (ea fa : Bool) (w : World)
    (HN : Hid (¬ (st = 0 ∧ ep = 0 ∧ vi = 0 ∧ fr = 0 ∧ le = 0 ∧ n = 0 ∧ m ≤ 256))) :
    Calls Tryd.prog 32 #[.agg #[.int .i64 5, .int .i64 st, .int .i64 ep, .int .i64 vi, .int .i64 fr, .int .i64 le, .slice A n c, .slice A' m c']] w (NumPost (.bool (decide (numsM 5 st ep vi fr le n m) && (ea && fa))) w) := by
  obtain ⟨mb, HM⟩ : ∃ mb, Hid (mb = (decide (numsM 5 st ep vi fr le n m) && (ea && fa))) := ⟨_, Lib.hid rfl⟩
  rw [← HM.out]
  have HF : Hid (mb = false) := by
    show _ = _
    rw [HM.out, decide_eq_false (by have := HN.out; unfold numsM; omega)]; rfl
  clear HM
  go_enter Tryd.func32, Tryd.ntmps32
  go_wp2_with fail
  all_goals
    first
      | (go_ret; exact ⟨ret_bool HF.out.symm, (Below.refl _ _).alloc (Nat.le_refl _) _⟩)
      | (exfalso; have := HN.out; simp at *; omega)
set_option maxRecDepth 100000 in
set_option maxHeartbeats 8000000 in
theorem rmay_5 (c : Nat) (A : Option Addr) {fd : List Sp} {vf : Value} (w : World) (hF : FdB w.heap.size w vf fd) (hm : fd.length ≤ 256) :
    Calls Tryd.prog 32 #[.agg #[.int .i64 5, .int .i64 0, .int .i64 0, .int .i64 0, .int .i64 0, .int .i64 0, .slice A 0 c, vf]] w (NumPost (.bool (fd.all Sp.may)) w) := by
  have HC := Lib.hid (fun X (hb : Below w.heap.size w X) k (hk : k < fd.length) => FdB.cells (hF.below hb (Nat.le_refl _)) hk)
  obtain ⟨A', c', rfl, h1, h2, -⟩ := hF.len
  unfold maxLen at h2
  clear hF
  have u : decide (256 < (fd.length : Int)) = false := decide_eq_false (by omega)
  obtain ⟨w1, HX1⟩ : ∃ W : World, Hid (W = w.alloc (.cells #[.int .i64 5, .int .i64 0, .int .i64 0, .int .i64 0, .int .i64 0, .int .i64 0, .slice A 0 c, .slice A' fd.length c'] 25)) := ⟨_, Lib.hid rfl⟩
  have hb1 : Below w.heap.size w w1 := by rw [HX1.out]; exact (Below.refl _ _).alloc (Nat.le_refl _) _
  have hx1 : w1.heap[w.heap.size]? = some (.cells #[.int .i64 5, .int .i64 0, .int .i64 0, .int .i64 0, .int .i64 0, .int .i64 0, .slice A 0 c, .slice A' fd.length c'] 25 (0, 0)) := by rw [HX1.out]; exact heap_alloc_new _ _
  have q0 : w1.cell? ⟨w.heap.size, 0, none⟩ = some (.int .i64 5) := by rw [Lib.cell_of_heap hx1]; rfl
  have q1 : w1.cell? ⟨w.heap.size, 1, none⟩ = some (.int .i64 0) := by rw [Lib.cell_of_heap hx1]; rfl
  have q2 : w1.cell? ⟨w.heap.size, 2, none⟩ = some (.int .i64 0) := by rw [Lib.cell_of_heap hx1]; rfl
  have q3 : w1.cell? ⟨w.heap.size, 3, none⟩ = some (.int .i64 0) := by rw [Lib.cell_of_heap hx1]; rfl
  have q4 : w1.cell? ⟨w.heap.size, 4, none⟩ = some (.int .i64 0) := by rw [Lib.cell_of_heap hx1]; rfl
  have q5 : w1.cell? ⟨w.heap.size, 5, none⟩ = some (.int .i64 0) := by rw [Lib.cell_of_heap hx1]; rfl
  have q6 : w1.cell? ⟨w.heap.size, 6, none⟩ = some (.slice A 0 c) := by rw [Lib.cell_of_heap hx1]; rfl
  have q7 : w1.cell? ⟨w.heap.size, 7, none⟩ = some (.slice A' fd.length c') := by rw [Lib.cell_of_heap hx1]; rfl
  have HB1 := Lib.hid hb1
  clear hb1 hx1
  go_enter Tryd.func32, Tryd.ntmps32
  go_wp2_with (rw [← HX1.out])
  go_loopw [4] (fun i wr => ∃ k : Nat, k ≤ fd.length ∧ i = .int .i64 k ∧ Hid ((fd.take k).all Sp.may = true) ∧ w1 = wr) (fun i _ => fd.length - (intOf i).toNat)
  case atStart => exact ⟨0, Nat.zero_le _, rfl, Lib.hid rfl, by first | rfl | exact HX1.out | exact HX1.out.symm⟩
  case round =>
    obtain ⟨k, hk, rfl, HALL, rfl⟩ := hrel
    by_cases hlt : k < fd.length
    · obtain ⟨b1, o1, c1', hv, hbb1, x0, x1⟩ := HC.out w1 HB1.out k hlt
      injection hv with e1 e2 e3
      subst e1 e3
      clear e2
      have hii : (k : Int) < (fd.length : Int) := by omega
      have HNO := Lib.hid (fun h => rall_no (f := Sp.may) hlt h)
      have HYES := Lib.hid (fun h => rall_step (f := Sp.may) hlt HALL.out h)
      generalize fd[k] = x at *
      obtain ⟨a, i⟩ := x
      have HME : Hid (Sp.may ⟨a, i⟩ = decide (0 ≤ a ∧ a ≤ 3 ∧ 0 ≤ i ∧ i ≤ 63)) := rfl
      have HST := Lib.hid (fun X => rstream_any a X)
      have hin : inb 0 3 a = decide (0 ≤ a ∧ a ≤ 3) := by unfold inb; simp
      rw [hin] at HST
      clear hin
      simp only at x0 x1
      by_cases hs : ¬ (0 ≤ a ∧ a ≤ 3)
      · have HF := Lib.hid (HNO.out (by rw [HME.out, decide_eq_false (by omega)]))
        rw [decide_eq_false hs] at HST
        clear hs HME HNO HYES
        go_wp2_with fail
        refine (HST.out _).mono ?_
        rintro e w' ⟨rfl, rfl⟩
        go_wp2_with fail
        go_ret
        exact ⟨ret_bool HF.out.symm, HB1.out⟩
      have hs := Decidable.not_not.1 hs
      rw [decide_eq_true hs] at HST
      by_cases hi : ¬ (0 ≤ i)
      · have u1 : decide (i < 0) = true := decide_eq_true (by omega)
        have HF := Lib.hid (HNO.out (by rw [HME.out, decide_eq_false (by omega)]))
        clear hs hi HME HNO HYES
        go_wp2_with fail
        refine (HST.out _).mono ?_
        rintro e w' ⟨rfl, rfl⟩
        go_wp2_with fail
        go_ret
        exact ⟨ret_bool HF.out.symm, HB1.out⟩
      have u1 : decide (i < 0) = false := decide_eq_false (by omega)
      by_cases hj : ¬ (i ≤ 63)
      · have u2 : decide (64 ≤ i) = true := decide_eq_true (by omega)
        have HF := Lib.hid (HNO.out (by rw [HME.out, decide_eq_false (by omega)]))
        clear hs hi hj HME HNO HYES
        go_wp2_with fail
        refine (HST.out _).mono ?_
        rintro e w' ⟨rfl, rfl⟩
        go_wp2_with fail
        go_ret
        exact ⟨ret_bool HF.out.symm, HB1.out⟩
      have u2 : decide (64 ≤ i) = false := decide_eq_false (by omega)
      have HT := Lib.hid (HYES.out (by rw [HME.out, decide_eq_true (by omega)]))
      clear hs hi hj HME HNO HYES
      go_wp2_with fail
      refine (HST.out _).mono ?_
      rintro e w' ⟨rfl, rfl⟩
      go_wp2_with fail
      go_roundw
      case rel => exact ⟨k + 1, by omega, by go_num, HT, trivial⟩
      case measure => simp [intOf]; omega
    · have HX : Hid (fd.all Sp.may = true) := by show _ = _; rw [← HALL.out, List.take_of_length_le (by omega)]
      clear hk
      go_wp2_with fail
      go_ret
      exact ⟨ret_bool HX.out.symm, HB1.out⟩
theorem rmayrec_any (r : Rec) {ve vf : Value} {w : World} (hE : EsB w.heap.size w ve r.es) (hF : FdB w.heap.size w vf r.fd) :
    Calls Tryd.prog 32 #[r.v ve vf] w (NumPost (.bool r.may) w) := by
  have hL : ∀ (X : World) (most : Int), Below w.heap.size w X → Calls Tryd.prog 58 #[ve, .int .i64 r.st, .int .i64 most] X (NumPost (.bool (decide ((r.es.length : Int) ≤ most) && r.es.all (En.may r.st))) X) :=
    fun X most hb => rlogf_any ((RdB.below hE hb (Nat.le_refl _)).mono hb.size) r.st most
  have h0 : r.es.length = 0 → r.es.all (En.may r.st) = true := fun h => by rw [List.length_eq_zero_iff.1 h]; rfl
  have h0' : r.fd.length = 0 → r.fd.all Sp.may = true := fun h => by rw [List.length_eq_zero_iff.1 h]; rfl
  have hF' := hF
  obtain ⟨A, c, rfl, -⟩ := RdB.len hE
  obtain ⟨A', c', rfl, -⟩ := RdB.len hF
  obtain ⟨ki, st, ep, vi, fr, le, es, fd⟩ := r
  show Calls _ _ #[.agg #[.int .i64 ki, .int .i64 st, .int .i64 ep, .int .i64 vi, .int .i64 fr, .int .i64 le, .slice A es.length c, .slice A' fd.length c']] _ (NumPost (.bool (decide (numsM ki st ep vi fr le es.length fd.length) && (es.all (En.may st) && fd.all Sp.may))) w)
  by_cases h1 : ki = 1
  · subst h1; exact rmay_1 st ep vi fr le _ _ c c' A A' _ _ w h0 h0' (Lib.hid hL)
  by_cases h2 : ki = 2
  · subst h2; exact rmay_2 st ep vi fr le _ _ c c' A A' _ _ w h0 h0' (Lib.hid hL)
  by_cases h3 : ki = 3
  · subst h3; exact rmay_3 st ep vi fr le _ _ c c' A A' _ _ w h0 h0' (Lib.hid hL)
  by_cases h4 : ki = 4
  · subst h4; exact rmay_4 st ep vi fr le _ _ c c' A A' _ _ w h0 h0' (Lib.hid hL)
  by_cases h5 : ki = 5
  · subst h5
    by_cases hN : st = 0 ∧ ep = 0 ∧ vi = 0 ∧ fr = 0 ∧ le = 0 ∧ es.length = 0 ∧ fd.length ≤ 256
    · obtain ⟨rfl, rfl, rfl, rfl, rfl, hn, hm⟩ := hN
      have h0 := h0 hn
      simp only at h0
      rw [h0, hn, decide_eq_true (by unfold numsM; omega), Bool.true_and, Bool.true_and]
      exact rmay_5 c A w hF' hm
    · exact rmay_5no st ep vi fr le _ _ c c' A A' _ _ w (Lib.hid hN)
  exact rmay_e ki st ep vi fr le _ _ c c' A A' _ _ w h0 h0' (Lib.hid hL) (by simp [h1]) (by simp [h2]) (by simp [h3]) (by simp [h4]) (by simp [h5]) (by simp [h5])
theorem rcheckrec_any (r : Rec) {ve vf : Value} {w : World} (hE : EsB w.heap.size w ve r.es) (hF : FdB w.heap.size w vf r.fd) :
    Calls Tryd.prog 11 #[r.v ve vf] w (NumPost (.int .i64 r.err) w) := by
  have HE : Hid (r.err = if r.may then 0 else 2) := rfl
  generalize r.err = er at *
  have hb0 : ∀ o : Obj, EsB (w.alloc o).heap.size (w.alloc o) ve r.es ∧ FdB (w.alloc o).heap.size (w.alloc o) vf r.fd := fun o =>
    have hb : Below w.heap.size w (w.alloc o) := (Below.refl _ _).alloc (Nat.le_refl _) o
    ⟨(RdB.below hE hb (Nat.le_refl _)).mono hb.size, (RdB.below hF hb (Nat.le_refl _)).mono hb.size⟩
  have HG := Lib.hid (fun o : Obj => rmayrec_any r (hb0 o).1 (hb0 o).2)
  obtain ⟨A, c, rfl, -⟩ := RdB.len hE
  obtain ⟨A', c', rfl, -⟩ := RdB.len hF
  clear hE hF hb0
  generalize r.may = my at *
  obtain ⟨ki, st, ep, vi, fr, le, es, fd⟩ := r
  dsimp only [Rec.v] at *
  cases my
  all_goals
    go_enter Tryd.func11, Tryd.ntmps11
    go_wp2_with fail
    refine (HG.out _).mono ?_
    rintro e w1 ⟨rfl, hb1⟩
    have hb2 : Below w.heap.size w w1 := ((Below.refl _ _).alloc (Nat.le_refl _) _).trans (hb1.mono (by simp))
    go_wp2_with fail
    go_ret
    exact ⟨by rw [HE.out]; rfl, hb2⟩
end Go.Proofs.YtkdnhfeamibmdaaDoor
namespace Go.Proofs.YtkdnhfeamibmdaaDoor
open Go.RowKit Go.Sort
theorem results_c1 {fn : Func} {p : Tmp} {ty : TypeId} (h : fn.results = #[.cell p ty]) (tmps : Array Value) (P : Program) (w : World) :
    (results fn tmps).run P w = ((asAddr (tmps.getD p undef)).run P w).andThen fun a w₁ => (loadVar ty a).run P w₁ := by
  simp only [results, h]
  simp [Sem.run_bind, Result.andThen]
theorem rsites_any (n : Int) (w : World) : Calls Tryd.prog 69 #[.int .i64 n] w fun e w' => w = w' ∧ e = .returned (.bool (inb 2 7 n)) := by
  have HI : Hid (inb 2 7 n = (decide (2 ≤ n) && decide (n ≤ 7))) := rfl
  generalize inb 2 7 n = r at *
  by_cases h1 : 2 ≤ n
  · have t1 : decide (2 ≤ n) = true := decide_eq_true h1
    by_cases h2 : n ≤ 7
    · have t2 : decide (n ≤ 7) = true := decide_eq_true h2
      go_enter Tryd.func69, Tryd.ntmps69
      go_wp2_with fail
      go_ret
      exact ⟨rfl, by rw [HI.out, t1, t2]; rfl⟩
    · have t2 : decide (n ≤ 7) = false := decide_eq_false h2
      go_enter Tryd.func69, Tryd.ntmps69
      go_wp2_with fail
      go_ret
      exact ⟨rfl, by rw [HI.out, t1, t2]; rfl⟩
  · have t1 : decide (2 ≤ n) = false := decide_eq_false h1
    go_enter Tryd.func69, Tryd.ntmps69
    go_wp2_with fail
    go_ret
    exact ⟨rfl, by rw [HI.out, t1]; rfl⟩
theorem rlength_any (n : Int) (w : World) : Calls Tryd.prog 71 #[.int .i64 n] w fun e w' => w = w' ∧ e = .returned (.bool (inb 0 64 n)) := by
  have HI : Hid (inb 0 64 n = (decide (0 ≤ n) && decide (n ≤ 64))) := rfl
  generalize inb 0 64 n = r at *
  by_cases h1 : 0 ≤ n
  · have t1 : decide (0 ≤ n) = true := decide_eq_true h1
    by_cases h2 : n ≤ 64
    · have t2 : decide (n ≤ 64) = true := decide_eq_true h2
      go_enter Tryd.func71, Tryd.ntmps71
      go_wp2_with fail
      go_ret
      exact ⟨rfl, by rw [HI.out, t1, t2]; rfl⟩
    · have t2 : decide (n ≤ 64) = false := decide_eq_false h2
      go_enter Tryd.func71, Tryd.ntmps71
      go_wp2_with fail
      go_ret
      exact ⟨rfl, by rw [HI.out, t1, t2]; rfl⟩
  · have t1 : decide (0 ≤ n) = false := decide_eq_false h1
    go_enter Tryd.func71, Tryd.ntmps71
    go_wp2_with fail
    go_ret
    exact ⟨rfl, by rw [HI.out, t1]; rfl⟩
theorem has_none (a0 a1 a2 a3 a4 a5 a6 a7 : Bool) (w : World) : (Op.equalIn 10000 117 (.agg #[.bool a0, .bool a1, .bool a2, .bool a3, .bool a4, .bool a5, .bool a6, .bool a7]) (.agg #[.bool false, .bool false, .bool false, .bool false, .bool false, .bool false, .bool false, .bool false])).run Tryd.prog w = .ok (!(a0 || (a1 || (a2 || (a3 || (a4 || (a5 || (a6 || a7)))))))) w := by
  have u3 := Tryd.underlying4
  have y3 := Tryd.isAgg4
  have z3 := Tryd.sizeOf4
  rw [show (10000 : Nat) = 9999 + 1 from rfl, Op.equalIn]
  simp only [Sem.run_bind, run_underlying Tryd.underlying117, Result.andThen_ok]
  simp only [Std.Legacy.Range.forIn_eq_forIn_range', Std.Legacy.Range.size, Nat.sub_zero, Nat.add_sub_cancel, Nat.div_one, List.range'_succ, List.range'_zero, List.forIn_cons, List.forIn_nil]
  go_simp
  cases a0 <;> cases a1 <;> cases a2 <;> cases a3 <;> cases a4 <;> cases a5 <;> cases a6 <;> cases a7 <;> rfl
/-- The fields of a kind, as the document's Has answers them. -/
def hasV (ki : Int) : Array Value :=
  if ki = 1 then #[.bool true, .bool false, .bool false, .bool false, .bool true, .bool false, .bool false, .bool false] else if ki = 2 then #[.bool true, .bool true, .bool false, .bool true, .bool true, .bool true, .bool false, .bool false] else if ki = 3 then #[.bool true, .bool false, .bool false, .bool false, .bool false, .bool false, .bool false, .bool false] else if ki = 4 then #[.bool true, .bool false, .bool true, .bool true, .bool true, .bool true, .bool false, .bool false] else if ki = 5 then #[.bool true, .bool false, .bool false, .bool true, .bool true, .bool false, .bool false, .bool false] else if ki = 6 then #[.bool true, .bool false, .bool false, .bool true, .bool false, .bool false, .bool false, .bool false] else if ki = 7 then #[.bool false, .bool false, .bool false, .bool false, .bool false, .bool false, .bool true, .bool false] else if ki = 8 then #[.bool false, .bool false, .bool false, .bool false, .bool false, .bool false, .bool false, .bool true] else if ki = 9 then #[.bool true, .bool false, .bool false, .bool false, .bool false, .bool false, .bool false, .bool false] else if ki = 10 then #[.bool true, .bool false, .bool false, .bool false, .bool false, .bool false, .bool false, .bool false] else #[.bool false, .bool false, .bool false, .bool false, .bool false, .bool false, .bool false, .bool false]
theorem rhas_1 (w : World) : Calls Tryd.prog 70 #[.int .i64 1] w (NumPost (.agg #[.bool true, .bool false, .bool false, .bool false, .bool true, .bool false, .bool false, .bool false]) w) := by
  go_enter Tryd.func70, Tryd.ntmps70
  go_wp2_with fail
  (try simp only [Exit.inBlock, Exit.then]); refine bodyPost_ret (v := .agg #[.bool true, .bool false, .bool false, .bool false, .bool true, .bool false, .bool false, .bool false]) (by rw [results_c1 rfl]; go_simp) rfl ?_
  exact ⟨rfl, by repeat' (first | (with_reducible exact Below.refl _ _) | (with_reducible refine below_drewN ?_ _) | (with_reducible refine Below.alloc ?_ ?_ _) | (with_reducible refine Below.setCell ?_ ?_ _) | go_size)⟩
theorem rhas_2 (w : World) : Calls Tryd.prog 70 #[.int .i64 2] w (NumPost (.agg #[.bool true, .bool true, .bool false, .bool true, .bool true, .bool true, .bool false, .bool false]) w) := by
  go_enter Tryd.func70, Tryd.ntmps70
  go_wp2_with fail
  (try simp only [Exit.inBlock, Exit.then]); refine bodyPost_ret (v := .agg #[.bool true, .bool true, .bool false, .bool true, .bool true, .bool true, .bool false, .bool false]) (by rw [results_c1 rfl]; go_simp) rfl ?_
  exact ⟨rfl, by repeat' (first | (with_reducible exact Below.refl _ _) | (with_reducible refine below_drewN ?_ _) | (with_reducible refine Below.alloc ?_ ?_ _) | (with_reducible refine Below.setCell ?_ ?_ _) | go_size)⟩
theorem rhas_3 (w : World) : Calls Tryd.prog 70 #[.int .i64 3] w (NumPost (.agg #[.bool true, .bool false, .bool false, .bool false, .bool false, .bool false, .bool false, .bool false]) w) := by
  go_enter Tryd.func70, Tryd.ntmps70
  go_wp2_with fail
  (try simp only [Exit.inBlock, Exit.then]); refine bodyPost_ret (v := .agg #[.bool true, .bool false, .bool false, .bool false, .bool false, .bool false, .bool false, .bool false]) (by rw [results_c1 rfl]; go_simp) rfl ?_
  exact ⟨rfl, by repeat' (first | (with_reducible exact Below.refl _ _) | (with_reducible refine below_drewN ?_ _) | (with_reducible refine Below.alloc ?_ ?_ _) | (with_reducible refine Below.setCell ?_ ?_ _) | go_size)⟩
theorem rhas_4 (w : World) : Calls Tryd.prog 70 #[.int .i64 4] w (NumPost (.agg #[.bool true, .bool false, .bool true, .bool true, .bool true, .bool true, .bool false, .bool false]) w) := by
  go_enter Tryd.func70, Tryd.ntmps70
  go_wp2_with fail
  (try simp only [Exit.inBlock, Exit.then]); refine bodyPost_ret (v := .agg #[.bool true, .bool false, .bool true, .bool true, .bool true, .bool true, .bool false, .bool false]) (by rw [results_c1 rfl]; go_simp) rfl ?_
  exact ⟨rfl, by repeat' (first | (with_reducible exact Below.refl _ _) | (with_reducible refine below_drewN ?_ _) | (with_reducible refine Below.alloc ?_ ?_ _) | (with_reducible refine Below.setCell ?_ ?_ _) | go_size)⟩
theorem rhas_5 (w : World) : Calls Tryd.prog 70 #[.int .i64 5] w (NumPost (.agg #[.bool true, .bool false, .bool false, .bool true, .bool true, .bool false, .bool false, .bool false]) w) := by
  go_enter Tryd.func70, Tryd.ntmps70
  go_wp2_with fail
  (try simp only [Exit.inBlock, Exit.then]); refine bodyPost_ret (v := .agg #[.bool true, .bool false, .bool false, .bool true, .bool true, .bool false, .bool false, .bool false]) (by rw [results_c1 rfl]; go_simp) rfl ?_
  exact ⟨rfl, by repeat' (first | (with_reducible exact Below.refl _ _) | (with_reducible refine below_drewN ?_ _) | (with_reducible refine Below.alloc ?_ ?_ _) | (with_reducible refine Below.setCell ?_ ?_ _) | go_size)⟩
theorem rhas_6 (w : World) : Calls Tryd.prog 70 #[.int .i64 6] w (NumPost (.agg #[.bool true, .bool false, .bool false, .bool true, .bool false, .bool false, .bool false, .bool false]) w) := by
  go_enter Tryd.func70, Tryd.ntmps70
  go_wp2_with fail
  (try simp only [Exit.inBlock, Exit.then]); refine bodyPost_ret (v := .agg #[.bool true, .bool false, .bool false, .bool true, .bool false, .bool false, .bool false, .bool false]) (by rw [results_c1 rfl]; go_simp) rfl ?_
  exact ⟨rfl, by repeat' (first | (with_reducible exact Below.refl _ _) | (with_reducible refine below_drewN ?_ _) | (with_reducible refine Below.alloc ?_ ?_ _) | (with_reducible refine Below.setCell ?_ ?_ _) | go_size)⟩
theorem rhas_7 (w : World) : Calls Tryd.prog 70 #[.int .i64 7] w (NumPost (.agg #[.bool false, .bool false, .bool false, .bool false, .bool false, .bool false, .bool true, .bool false]) w) := by
  go_enter Tryd.func70, Tryd.ntmps70
  go_wp2_with fail
  (try simp only [Exit.inBlock, Exit.then]); refine bodyPost_ret (v := .agg #[.bool false, .bool false, .bool false, .bool false, .bool false, .bool false, .bool true, .bool false]) (by rw [results_c1 rfl]; go_simp) rfl ?_
  exact ⟨rfl, by repeat' (first | (with_reducible exact Below.refl _ _) | (with_reducible refine below_drewN ?_ _) | (with_reducible refine Below.alloc ?_ ?_ _) | (with_reducible refine Below.setCell ?_ ?_ _) | go_size)⟩
theorem rhas_8 (w : World) : Calls Tryd.prog 70 #[.int .i64 8] w (NumPost (.agg #[.bool false, .bool false, .bool false, .bool false, .bool false, .bool false, .bool false, .bool true]) w) := by
  go_enter Tryd.func70, Tryd.ntmps70
  go_wp2_with fail
  (try simp only [Exit.inBlock, Exit.then]); refine bodyPost_ret (v := .agg #[.bool false, .bool false, .bool false, .bool false, .bool false, .bool false, .bool false, .bool true]) (by rw [results_c1 rfl]; go_simp) rfl ?_
  exact ⟨rfl, by repeat' (first | (with_reducible exact Below.refl _ _) | (with_reducible refine below_drewN ?_ _) | (with_reducible refine Below.alloc ?_ ?_ _) | (with_reducible refine Below.setCell ?_ ?_ _) | go_size)⟩
theorem rhas_9 (w : World) : Calls Tryd.prog 70 #[.int .i64 9] w (NumPost (.agg #[.bool true, .bool false, .bool false, .bool false, .bool false, .bool false, .bool false, .bool false]) w) := by
  go_enter Tryd.func70, Tryd.ntmps70
  go_wp2_with fail
  (try simp only [Exit.inBlock, Exit.then]); refine bodyPost_ret (v := .agg #[.bool true, .bool false, .bool false, .bool false, .bool false, .bool false, .bool false, .bool false]) (by rw [results_c1 rfl]; go_simp) rfl ?_
  exact ⟨rfl, by repeat' (first | (with_reducible exact Below.refl _ _) | (with_reducible refine below_drewN ?_ _) | (with_reducible refine Below.alloc ?_ ?_ _) | (with_reducible refine Below.setCell ?_ ?_ _) | go_size)⟩
theorem rhas_10 (w : World) : Calls Tryd.prog 70 #[.int .i64 10] w (NumPost (.agg #[.bool true, .bool false, .bool false, .bool false, .bool false, .bool false, .bool false, .bool false]) w) := by
  go_enter Tryd.func70, Tryd.ntmps70
  go_wp2_with fail
  (try simp only [Exit.inBlock, Exit.then]); refine bodyPost_ret (v := .agg #[.bool true, .bool false, .bool false, .bool false, .bool false, .bool false, .bool false, .bool false]) (by rw [results_c1 rfl]; go_simp) rfl ?_
  exact ⟨rfl, by repeat' (first | (with_reducible exact Below.refl _ _) | (with_reducible refine below_drewN ?_ _) | (with_reducible refine Below.alloc ?_ ?_ _) | (with_reducible refine Below.setCell ?_ ?_ _) | go_size)⟩
theorem rhas_e (ki : Int) (w : World) (h1 : (ki == 1) = false) (h2 : (ki == 2) = false) (h3 : (ki == 3) = false) (h4 : (ki == 4) = false) (h5 : (ki == 5) = false) (h6 : (ki == 6) = false) (h7 : (ki == 7) = false) (h8 : (ki == 8) = false) (h9 : (ki == 9) = false) (h10 : (ki == 10) = false) : Calls Tryd.prog 70 #[.int .i64 ki] w (NumPost (.agg #[.bool false, .bool false, .bool false, .bool false, .bool false, .bool false, .bool false, .bool false]) w) := by
  go_enter Tryd.func70, Tryd.ntmps70
  go_wp2_with fail
  (try simp only [Exit.inBlock, Exit.then]); refine bodyPost_ret (v := .agg #[.bool false, .bool false, .bool false, .bool false, .bool false, .bool false, .bool false, .bool false]) (by rw [results_c1 rfl]; go_simp) rfl ?_
  exact ⟨rfl, by repeat' (first | (with_reducible exact Below.refl _ _) | (with_reducible refine below_drewN ?_ _) | (with_reducible refine Below.alloc ?_ ?_ _) | (with_reducible refine Below.setCell ?_ ?_ _) | go_size)⟩
theorem rlogm_any {v : Value} (m : Ml) (w : World) (most : Int) (hE : EsB w.heap.size w v m.es) :
    Calls Tryd.prog 72 #[m.v v, .int .i64 most] w (NumPost (.bool (decide ((m.es.length : Int) ≤ most) && m.es.all (En.may m.st))) w) := by
  have hb0 : ∀ o : Obj, EsB (w.alloc o).heap.size (w.alloc o) v m.es := fun o =>
    have hb : Below w.heap.size w (w.alloc o) := (Below.refl _ _).alloc (Nat.le_refl _) o
    (RdB.below hE hb (Nat.le_refl _)).mono hb.size
  have HG := Lib.hid (fun o : Obj => rlogf_any (hb0 o) m.st most)
  obtain ⟨A, c, rfl, -⟩ := RdB.len hE
  clear hE hb0
  generalize (decide ((m.es.length : Int) ≤ most) && m.es.all (En.may m.st)) = r at *
  generalize m.es.length = n at *
  obtain ⟨ki, fr, tt, st, ep, vi, ba, le, sp, es, ⟨oi, os, oe, ok, oa⟩, ai, ac, av⟩ := m
  dsimp only [Ml.v, Ml.cells] at *
  go_enter Tryd.func72, Tryd.ntmps72
  go_wp2_with fail
  refine (HG.out _).mono ?_
  rintro e w1 ⟨rfl, hb⟩
  have HB := Lib.hid (((Below.refl _ _).alloc (Nat.le_refl _) _ : Below w.heap.size w _).trans (hb.mono (by simp)))
  clear hb
  go_wp2_with fail
  go_ret
  exact ⟨rfl, HB.out⟩
end Go.Proofs.YtkdnhfeamibmdaaDoor
