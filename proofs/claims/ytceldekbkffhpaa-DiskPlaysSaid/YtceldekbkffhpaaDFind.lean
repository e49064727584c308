/-
  Contracts of slices.BinarySearchFunc at files, and of find: the place of a name, and whether it is there.
-/
import Derived.Test.YtceldekbkffhpaaDSmall
import Derived.Deep.LoopGhost
namespace Go.Proofs.Ytceldekbkffhpaa
open Go.RowKit
theorem cmpFile_any (a nm : ByteArray) (bv s : Value) (w : World) : Calls Try.prog 68 #[.agg #[.string a, bv, s], .string nm] w fun e w' => e = .returned (.int .i64 (cmpOf a nm)) ∧ Below w.heap.size w w' := by
  go_enter Try.func68, Try.ntmps68
  go_wp2_with fail
  refine (compare_any _ _ _).mono ?_
  rintro e w' ⟨rfl, rfl⟩
  go_wp2_with fail
  go_ret
  exact ⟨rfl, (Below.refl _ _).alloc (Nat.le_refl _) _⟩
theorem cmp_neg {a nm : ByteArray} : cmpOf a nm < 0 ↔ Dsk.nlt a nm = true := by
  unfold cmpOf
  cases h : Dsk.nlt a nm
  · simp only [Bool.false_eq_true, if_false, iff_false]
    split <;> omega
  · simp
theorem cmp_zero {a nm : ByteArray} : cmpOf a nm = 0 ↔ a = nm := by
  unfold cmpOf
  cases h : Dsk.nlt a nm
  · simp only [Bool.false_eq_true, if_false]
    split <;> simp_all
  · simp only [if_true]
    constructor
    · intro e; omega
    · rintro rfl; rw [Dsk.nlt_irrefl] at h; cases h
set_option maxRecDepth 100000 in
set_option maxHeartbeats 1000000 in
theorem search_any {d : Nat} {v : Value} {fs : List MF} (nm : ByteArray) (w : World) (h : Files w d v fs) (hr : Dsk.Rise (MF.names fs)) (hl : fs.length ≤ 1000) :
    Calls Try.prog 67 #[v, .string nm, .func (.func 68) #[] #[]] w fun e w' =>
      e = .returned (.tuple #[.int .i64 (Dsk.place (MF.names fs) nm : Nat), .bool (decide (nm ∈ MF.names fs))]) ∧ Below w.heap.size w w' := by
  have HF := Lib.hid h
  obtain ⟨A, c, rfl, hc, hcm, hA⟩ := h.len
  have HR := Lib.hid hr
  have HL := Lib.hid (MF.names_len fs)
  clear h hr hA hcm
  go_enter Try.func67, Try.ntmps67
  go_wp2_with fail
  go_loopg [9, 10] fs.length (fun kx s9 s10 wr => ∃ lo hi : Nat, s9 = .int .i64 lo ∧ s10 = .int .i64 hi ∧ lo ≤ hi ∧ hi ≤ fs.length ∧ hi - lo ≤ kx ∧ Below w.heap.size w wr ∧
    Hid ((∀ t (ht : t < (MF.names fs).length), t < lo → Dsk.nlt (MF.names fs)[t] nm = true) ∧ (∀ t (ht : t < (MF.names fs).length), hi ≤ t → Dsk.nlt (MF.names fs)[t] nm = false)))
  case atStart => exact ⟨0, fs.length, rfl, rfl, Nat.zero_le _, Nat.le_refl _, by omega, Below.refl _ _, ⟨fun t _ h1 => absurd h1 (Nat.not_lt_zero _), fun t ht h1 => by have := HL.out; omega⟩⟩
  case round =>
    obtain ⟨lo, hi, rfl, rfl, hlh, hin, hg, hb, HI⟩ := hrel
    by_cases hlt : lo < hi
    · have hm : (lo + hi) / 2 < fs.length := by omega
      obtain ⟨g, c', hv, _, hgd, hgl, c1, c2, c3, _⟩ := HF.out.at_ hm
      injection hv with hv1 _ hv2
      subst hv1; subst hv2
      have d1 := (hb.cell (p := ⟨g, (lo + hi) / 2 * 3, none⟩) hgl).trans c1
      have d2 := (hb.cell (p := ⟨g, (lo + hi) / 2 * 3 + 1, none⟩) hgl).trans c2
      have d3 := (hb.cell (p := ⟨g, (lo + hi) / 2 * 3 + 2, none⟩) hgl).trans c3
      clear c1 c2 c3
      have HN := Lib.hid (MF.names_at fs hm)
      generalize fs[(lo + hi) / 2].fl.name = a at *
      generalize fs[(lo + hi) / 2].bv = bv at *
      generalize fs[(lo + hi) / 2].fl.sure = sr at *
      have HC := Lib.hid (cmpFile_any a nm bv (.int .i64 (sr : Int)))
      cases hnl : Dsk.nlt a nm
      · have t1 : decide (cmpOf a nm < 0) = false := decide_eq_false (fun e => by rw [cmp_neg.1 e] at hnl; cases hnl)
        have HX := Lib.hid hnl
        clear hnl
        go_wp2_with fail
        refine (HC.out _).mono ?_
        rintro e w' ⟨rfl, hb'⟩
        go_wp2_with fail
        go_roundg ((lo + hi) / 2 - lo)
        case measure => omega
        case rel =>
          exact ⟨lo, (lo + hi) / 2, rfl, by rw [show ((lo : Int) + (hi : Int)) / 2 = (((lo + hi) / 2 : Nat) : Int) by omega], by omega, by omega, Nat.le_refl _, hb.trans (hb'.mono hb.size),
            ⟨HI.out.1, fun t ht h1 => by
              rcases Nat.lt_or_ge ((lo + hi) / 2) t with h2 | h2
              · have h3 := HR.out.at_ h2 ht
                rw [HN.out] at h3
                cases h4 : Dsk.nlt (MF.names fs)[t] nm
                · rfl
                · have := Dsk.nlt_trans h3 h4
                  rw [HX.out] at this
                  cases this
              · obtain rfl : t = (lo + hi) / 2 := by omega
                rw [HN.out]
                exact HX.out⟩⟩
      · have t1 : decide (cmpOf a nm < 0) = true := decide_eq_true (cmp_neg.2 hnl)
        have HX := Lib.hid hnl
        clear hnl
        go_wp2_with fail
        refine (HC.out _).mono ?_
        rintro e w' ⟨rfl, hb'⟩
        go_wp2_with fail
        go_roundg (hi - ((lo + hi) / 2 + 1))
        case measure => omega
        case rel =>
          exact ⟨(lo + hi) / 2 + 1, hi, by rw [show ((lo : Int) + (hi : Int)) / 2 + 1 = (((lo + hi) / 2 + 1 : Nat) : Int) by omega], rfl, by omega, hin, Nat.le_refl _, hb.trans (hb'.mono hb.size),
            ⟨fun t ht h1 => by
              rcases Nat.lt_or_ge t ((lo + hi) / 2) with h2 | h2
              · have h3 := HR.out.at_ h2 (by rw [HL.out]; exact hm)
                rw [HN.out] at h3
                exact Dsk.nlt_trans h3 HX.out
              · obtain rfl : t = (lo + hi) / 2 := by omega
                rw [HN.out]
                exact HX.out, HI.out.2⟩⟩
    · obtain rfl : hi = lo := by omega
      have HP := Lib.hid (Dsk.place_of HR.out (i := hi) (by rw [HL.out]; exact hin) HI.out.1 HI.out.2)
      have HT := Lib.hid (Dsk.there_iff HR.out (nm := nm))
      clear HI
      by_cases hn : hi < fs.length
      · obtain ⟨g, c', hv, _, hgd, hgl, c1, c2, c3, _⟩ := HF.out.at_ hn
        injection hv with hv1 _ hv2
        subst hv1; subst hv2
        have d1 := (hb.cell (p := ⟨g, hi * 3, none⟩) hgl).trans c1
        have d2 := (hb.cell (p := ⟨g, hi * 3 + 1, none⟩) hgl).trans c2
        have d3 := (hb.cell (p := ⟨g, hi * 3 + 2, none⟩) hgl).trans c3
        clear c1 c2 c3
        have HN := Lib.hid (MF.names_at fs hn)
        generalize fs[hi].fl.name = a at *
        generalize fs[hi].bv = bv at *
        generalize fs[hi].fl.sure = sr at *
        have HC := Lib.hid (cmpFile_any a nm bv (.int .i64 (sr : Int)))
        have HE : Hid ((cmpOf a nm == 0) = decide (nm ∈ MF.names fs)) := by
          have e1 : nm ∈ MF.names fs ↔ a = nm := by
            rw [HT.out, HP.out, HL.out, List.getElem?_eq_getElem (by rw [HL.out]; exact hn), HN.out]
            constructor
            · rintro ⟨_, h⟩; injection h
            · rintro rfl; exact ⟨hn, rfl⟩
          unfold Hid
          rw [Bool.eq_iff_iff, decide_eq_true_iff, beq_iff_eq, cmp_zero, e1]
        generalize hq : (cmpOf a nm == 0) = q
        rw [hq] at HE
        go_wp2_with fail
        refine (HC.out _).mono ?_
        rintro e w' ⟨rfl, hb'⟩
        go_wp2_with fail
        go_ret2
        exact ⟨by rw [HP.out, ← HE.out]; rfl, hb.trans (hb'.mono hb.size)⟩
      · have HE : Hid (decide (nm ∈ MF.names fs) = false) := decide_eq_false (by rw [HT.out, HP.out, HL.out]; omega)
        go_wp2_with fail
        go_ret2
        exact ⟨by rw [HP.out, HE.out]; rfl, hb⟩
set_option maxRecDepth 100000 in
theorem find_any {d cap : Nat} {v : Value} {down : Bool} {starts : Nat} {left : Int} {fv : Value} {fs : List MF} (nm : ByteArray) (w : World) (hh : Head w d cap v down starts left fv) (h : Files w d v fs) (hr : Dsk.Rise (MF.names fs)) (hl : fs.length ≤ 1000) :
    Calls Try.prog 49 #[.pointer (some ⟨d, 0, none⟩), .string nm] w fun e w' =>
      e = .returned (.tuple #[.int .i64 (Dsk.place (MF.names fs) nm : Nat), .bool (decide (nm ∈ MF.names fs))]) ∧ Below w.heap.size w w' := by
  obtain ⟨c0, c1, c2, c3, c4, c5, hf⟩ := hh.cells
  have HS := Lib.hid (search_any nm w h hr hl)
  clear hf c0 c2 c3 c4 c5 hh h hr
  go_enter Try.func49, Try.ntmps49
  go_wp2_with fail
  refine HS.out.mono ?_
  rintro e w' ⟨rfl, hb'⟩
  go_wp2_with fail
  go_ret2
  exact ⟨rfl, hb'⟩
end Go.Proofs.Ytceldekbkffhpaa
