/-
  Epoch, Stream and Ints of the document's records.
-/
import Derived.Test.YtkdnhfeamibmdaaDoorRcAsk
import Derived.Test.YtkdnhfeamibmdaaDoorRcPut
import Derived.Test.YtkdnhfeamibmdaaDoorRcNext
namespace Go.Proofs.YtkdnhfeamibmdaaDoor
open Go.RowKit Go.Sort
set_option maxRecDepth 100000 in
set_option maxHeartbeats 1000000 in
theorem repoch_any (n a : Int) (w : World) : Calls Tryd.prog 57 #[.int .i64 n, .int .i64 a] w fun e w' => w = w' ∧ e = .returned (.bool (inb a 1048576 n)) := by
  have HI : Hid (inb a 1048576 n = (decide (a ≤ n) && decide (n ≤ 1048576))) := rfl
  generalize inb a 1048576 n = r at *
  by_cases h1 : a ≤ n
  · have t1 : decide (a ≤ n) = true := decide_eq_true h1
    by_cases h2 : n ≤ 1048576
    · have t2 : decide (n ≤ 1048576) = true := decide_eq_true h2
      go_enter Tryd.func57, Tryd.ntmps57
      go_wp2_with fail
      go_ret
      exact ⟨rfl, by rw [HI.out, t1, t2]; rfl⟩
    · have t2 : decide (n ≤ 1048576) = false := decide_eq_false h2
      go_enter Tryd.func57, Tryd.ntmps57
      go_wp2_with fail
      go_ret
      exact ⟨rfl, by rw [HI.out, t1, t2]; rfl⟩
  · have t1 : decide (a ≤ n) = false := decide_eq_false h1
    go_enter Tryd.func57, Tryd.ntmps57
    go_wp2_with fail
    go_ret
    exact ⟨rfl, by rw [HI.out, t1]; rfl⟩
set_option maxRecDepth 100000 in
set_option maxHeartbeats 1000000 in
theorem rstream_any (n : Int) (w : World) : Calls Tryd.prog 56 #[.int .i64 n] w fun e w' => w = w' ∧ e = .returned (.bool (inb 0 3 n)) := by
  have HI : Hid (inb 0 3 n = (decide (0 ≤ n) && decide (n < 4))) := by
    show _ = _
    unfold inb
    congr 1
    rw [Bool.eq_iff_iff, decide_eq_true_eq, decide_eq_true_eq]; omega
  generalize inb 0 3 n = r at *
  by_cases h1 : 0 ≤ n
  · have t1 : decide (0 ≤ n) = true := decide_eq_true h1
    by_cases h2 : n < 4
    · have t2 : decide (n < 4) = true := decide_eq_true h2
      go_enter Tryd.func56, Tryd.ntmps56
      go_wp2_with fail
      go_ret
      exact ⟨rfl, by rw [HI.out, t1, t2]; rfl⟩
    · have t2 : decide (n < 4) = false := decide_eq_false h2
      go_enter Tryd.func56, Tryd.ntmps56
      go_wp2_with fail
      go_ret
      exact ⟨rfl, by rw [HI.out, t1, t2]; rfl⟩
  · have t1 : decide (0 ≤ n) = false := decide_eq_false h1
    go_enter Tryd.func56, Tryd.ntmps56
    go_wp2_with fail
    go_ret
    exact ⟨rfl, by rw [HI.out, t1]; rfl⟩
set_option maxRecDepth 100000 in
set_option maxHeartbeats 1000000 in
theorem rints_any {g : Nat} {ns : List Int} {w : World} (hr : IntRow w g ns) (hi : IntsOk ns) (hn : ns.length ≤ 1000) :
    Calls Tryd.prog 33 #[.slice (some ⟨g, 0, none⟩) ns.length ns.length] w (StrPost ⟨(markL ns).toArray⟩ w) := by
  have HR := Lib.hid hr
  have HI := Lib.hid hi
  have HML := Lib.hid (fun k => Nat.le_trans (markL_take_le ns k) (markL_len hi).2)
  clear hr hi
  go_enter Tryd.func33, Tryd.ntmps33
  go_wp2_with fail
  go_loopw [3, 4] (fun s i wr => ∃ (k : Nat) (S : ByteArray), k ≤ ns.length ∧ i = .int .i64 k ∧ s = .string S ∧ Hid (S = ⟨(markL (ns.take k)).toArray⟩) ∧ Below w.heap.size w wr) (fun _ i _ => ns.length - (intOf i).toNat)
  case atStart => exact ⟨0, ⟨#[]⟩, Nat.zero_le _, rfl, rfl, Lib.hid (by simp [markL]), Below.refl _ _⟩
  case round =>
    obtain ⟨k, S, hk, rfl, rfl, hS, hb⟩ := hrel
    by_cases hlt : k < ns.length
    · have hc := (HR.out.below hb).cell hlt
      have hii : (k : Int) < (ns.length : Int) := by omega
      have hbd := HI.out ns[k] (List.getElem_mem hlt)
      have HT := Lib.hid (markL_take hlt)
      have hml := HML.out k
      have hs1 : S.size ≤ 10000 := by
        rw [hS.out]
        show (markL (ns.take k)).toArray.size ≤ 10000
        rw [List.size_toArray]; omega
      obtain ⟨S2, hS2, lS⟩ := mark_name hbd.1 hbd.2
      have G1 : Hid (∀ X, Calls Tryd.prog 59 #[.int .i64 ns[k]] X (StrPost S2 X)) := fun X => (rput_any ns[k] X hbd.1 hbd.2).mono fun e w' h => by rw [hS2.out]; exact h
      have HS : Hid (S ++ S2 = ⟨(markL (ns.take (k + 1))).toArray⟩) := by show _ = _; rw [hS.out, hS2.out, str_mk, HT.out]
      generalize ns[k] = x at *
      have HB := Lib.hid hb
      clear hb hS hS2 hbd
      go_wp2_with fail
      refine (G1.out _).mono ?_
      rintro e w1 ⟨rfl, hb1⟩
      have HB1 := Lib.hid (HB.out.trans (hb1.mono HB.out.size))
      clear hb1
      go_wp2_with fail
      go_roundw
      case rel => exact ⟨k + 1, S ++ S2, by omega, by go_num, rfl, HS, HB1.out⟩
      case measure => simp [intOf]; omega
    · have HX : Hid (S = ⟨(markL ns).toArray⟩) := by show _ = _; rw [hS.out, List.take_of_length_le (by omega)]
      have HB := Lib.hid hb
      clear hb hS
      go_wp2_with fail
      go_ret
      exact ⟨by rw [← HX.out]; rfl, HB.out⟩
end Go.Proofs.YtkdnhfeamibmdaaDoor
