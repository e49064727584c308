/-
  May of the document's records: the kinds that have no feed.
-/
import Derived.Test.YtkdnhfeamibmdaaDoorRrLog
namespace Go.Proofs.YtkdnhfeamibmdaaDoor
open Go.RowKit Go.Sort
theorem may_bool {b : Bool} {P : Prop} [Decidable P] {ea fa : Bool} (h : b = true ↔ (P ∧ ea = true ∧ fa = true)) : b = (decide P && (ea && fa)) := by
  rw [Bool.eq_iff_iff, h]; simp
set_option maxRecDepth 100000 in
set_option maxHeartbeats 8000000 in
theorem rmay_1 (st ep vi fr le : Int) (n m c c' : Nat) (A A' : Option Addr) (ea fa : Bool) (w : World) (h0 : n = 0 → ea = true) (h0' : m = 0 → fa = true)
    (HL : Hid (∀ (X : World) (most : Int), Below w.heap.size w X → Calls Tryd.prog 58 #[.slice A n c, .int .i64 st, .int .i64 most] X (NumPost (.bool (decide ((n : Int) ≤ most) && ea)) X))) :
    Calls Tryd.prog 32 #[.agg #[.int .i64 1, .int .i64 st, .int .i64 ep, .int .i64 vi, .int .i64 fr, .int .i64 le, .slice A n c, .slice A' m c']] w (NumPost (.bool (decide (numsM 1 st ep vi fr le n m) && (ea && fa))) w) := by
  obtain ⟨mb, HM⟩ : ∃ mb, Hid (mb = (decide (numsM 1 st ep vi fr le n m) && (ea && fa))) := ⟨_, Lib.hid rfl⟩
  rw [← HM.out]
  have H0 := Lib.hid h0
  have H0' := Lib.hid h0'
  clear h0 h0'
  go_enter Tryd.func32, Tryd.ntmps32
  go_wp2_with (first | (go_at_call 56; (refine (rstream_any _ _).mono ?_); rintro e w' ⟨rfl, rfl⟩) | (go_at_call 57; (refine (repoch_any _ _ _).mono ?_); rintro e w' ⟨rfl, rfl⟩) | (go_at_call 58; (refine (HL.out _ _ ((Below.refl _ _).alloc (Nat.le_refl _) _)).mono ?_); rintro e w5 ⟨rfl, hb⟩; have HB5 := Lib.hid (((Below.refl _ _).alloc (Nat.le_refl _) _ : Below w.heap.size w _).trans (hb.mono (by simp))); have HX5 := Lib.hid ((hb.block w.heap.size (by simp)).trans (heap_alloc_new _ _)); have d5 : w5.cell? ⟨w.heap.size, 5, none⟩ = some (.int .i64 le) := (by rw [Lib.cell_of_heap HX5.out]; rfl); have d6 : w5.cell? ⟨w.heap.size, 6, none⟩ = some (.slice A n c) := (by rw [Lib.cell_of_heap HX5.out]; rfl); clear hb))
  all_goals
    go_ret
    refine ⟨ret_bool ((may_bool ?_).trans HM.out.symm), by first | exact HB5.out | exact (Below.refl _ _).alloc (Nat.le_refl _) _⟩
    have h0 := H0.out
    have h0' := H0'.out
    clear H0 H0' HM
    (try clear HX5 HB5 d5 d6)
    cases ea <;> cases fa <;> simp [numsM, inb] at * <;> omega
set_option maxRecDepth 100000 in
set_option maxHeartbeats 8000000 in
theorem rmay_2 (st ep vi fr le : Int) (n m c c' : Nat) (A A' : Option Addr) (ea fa : Bool) (w : World) (h0 : n = 0 → ea = true) (h0' : m = 0 → fa = true)
    (HL : Hid (∀ (X : World) (most : Int), Below w.heap.size w X → Calls Tryd.prog 58 #[.slice A n c, .int .i64 st, .int .i64 most] X (NumPost (.bool (decide ((n : Int) ≤ most) && ea)) X))) :
    Calls Tryd.prog 32 #[.agg #[.int .i64 2, .int .i64 st, .int .i64 ep, .int .i64 vi, .int .i64 fr, .int .i64 le, .slice A n c, .slice A' m c']] w (NumPost (.bool (decide (numsM 2 st ep vi fr le n m) && (ea && fa))) w) := by
  obtain ⟨mb, HM⟩ : ∃ mb, Hid (mb = (decide (numsM 2 st ep vi fr le n m) && (ea && fa))) := ⟨_, Lib.hid rfl⟩
  rw [← HM.out]
  have H0 := Lib.hid h0
  have H0' := Lib.hid h0'
  clear h0 h0'
  go_enter Tryd.func32, Tryd.ntmps32
  go_wp2_with (first | (go_at_call 56; (refine (rstream_any _ _).mono ?_); rintro e w' ⟨rfl, rfl⟩) | (go_at_call 57; (refine (repoch_any _ _ _).mono ?_); rintro e w' ⟨rfl, rfl⟩) | (go_at_call 58; (refine (HL.out _ _ ((Below.refl _ _).alloc (Nat.le_refl _) _)).mono ?_); rintro e w5 ⟨rfl, hb⟩; have HB5 := Lib.hid (((Below.refl _ _).alloc (Nat.le_refl _) _ : Below w.heap.size w _).trans (hb.mono (by simp))); clear hb))
  all_goals
    go_ret
    refine ⟨ret_bool ((may_bool ?_).trans HM.out.symm), by first | exact HB5.out | exact (Below.refl _ _).alloc (Nat.le_refl _) _⟩
    have h0 := H0.out
    have h0' := H0'.out
    clear H0 H0' HM
    (try clear HX5 HB5 d5 d6)
    cases ea <;> cases fa <;> simp [numsM, inb] at * <;> omega
set_option maxRecDepth 100000 in
set_option maxHeartbeats 8000000 in
theorem rmay_3 (st ep vi fr le : Int) (n m c c' : Nat) (A A' : Option Addr) (ea fa : Bool) (w : World) (h0 : n = 0 → ea = true) (h0' : m = 0 → fa = true)
    (HL : Hid (∀ (X : World) (most : Int), Below w.heap.size w X → Calls Tryd.prog 58 #[.slice A n c, .int .i64 st, .int .i64 most] X (NumPost (.bool (decide ((n : Int) ≤ most) && ea)) X))) :
    Calls Tryd.prog 32 #[.agg #[.int .i64 3, .int .i64 st, .int .i64 ep, .int .i64 vi, .int .i64 fr, .int .i64 le, .slice A n c, .slice A' m c']] w (NumPost (.bool (decide (numsM 3 st ep vi fr le n m) && (ea && fa))) w) := by
  obtain ⟨mb, HM⟩ : ∃ mb, Hid (mb = (decide (numsM 3 st ep vi fr le n m) && (ea && fa))) := ⟨_, Lib.hid rfl⟩
  rw [← HM.out]
  have H0 := Lib.hid h0
  have H0' := Lib.hid h0'
  clear h0 h0'
  go_enter Tryd.func32, Tryd.ntmps32
  go_wp2_with (first | (go_at_call 56; (refine (rstream_any _ _).mono ?_); rintro e w' ⟨rfl, rfl⟩) | (go_at_call 57; (refine (repoch_any _ _ _).mono ?_); rintro e w' ⟨rfl, rfl⟩) | (go_at_call 58; (refine (HL.out _ _ ((Below.refl _ _).alloc (Nat.le_refl _) _)).mono ?_); rintro e w5 ⟨rfl, hb⟩; have HB5 := Lib.hid (((Below.refl _ _).alloc (Nat.le_refl _) _ : Below w.heap.size w _).trans (hb.mono (by simp))); have HX5 := Lib.hid ((hb.block w.heap.size (by simp)).trans (heap_alloc_new _ _)); have d5 : w5.cell? ⟨w.heap.size, 5, none⟩ = some (.int .i64 le) := (by rw [Lib.cell_of_heap HX5.out]; rfl); have d6 : w5.cell? ⟨w.heap.size, 6, none⟩ = some (.slice A n c) := (by rw [Lib.cell_of_heap HX5.out]; rfl); clear hb))
  all_goals
    go_ret
    refine ⟨ret_bool ((may_bool ?_).trans HM.out.symm), by first | exact HB5.out | exact (Below.refl _ _).alloc (Nat.le_refl _) _⟩
    have h0 := H0.out
    have h0' := H0'.out
    clear H0 H0' HM
    (try clear HX5 HB5 d5 d6)
    cases ea <;> cases fa <;> simp [numsM, inb] at * <;> omega
set_option maxRecDepth 100000 in
set_option maxHeartbeats 8000000 in
theorem rmay_4 (st ep vi fr le : Int) (n m c c' : Nat) (A A' : Option Addr) (ea fa : Bool) (w : World) (h0 : n = 0 → ea = true) (h0' : m = 0 → fa = true)
    (HL : Hid (∀ (X : World) (most : Int), Below w.heap.size w X → Calls Tryd.prog 58 #[.slice A n c, .int .i64 st, .int .i64 most] X (NumPost (.bool (decide ((n : Int) ≤ most) && ea)) X))) :
    Calls Tryd.prog 32 #[.agg #[.int .i64 4, .int .i64 st, .int .i64 ep, .int .i64 vi, .int .i64 fr, .int .i64 le, .slice A n c, .slice A' m c']] w (NumPost (.bool (decide (numsM 4 st ep vi fr le n m) && (ea && fa))) w) := by
  obtain ⟨mb, HM⟩ : ∃ mb, Hid (mb = (decide (numsM 4 st ep vi fr le n m) && (ea && fa))) := ⟨_, Lib.hid rfl⟩
  rw [← HM.out]
  have H0 := Lib.hid h0
  have H0' := Lib.hid h0'
  clear h0 h0'
  go_enter Tryd.func32, Tryd.ntmps32
  go_wp2_with (first | (go_at_call 56; (refine (rstream_any _ _).mono ?_); rintro e w' ⟨rfl, rfl⟩) | (go_at_call 57; (refine (repoch_any _ _ _).mono ?_); rintro e w' ⟨rfl, rfl⟩) | (go_at_call 58; (refine (HL.out _ _ ((Below.refl _ _).alloc (Nat.le_refl _) _)).mono ?_); rintro e w5 ⟨rfl, hb⟩; have HB5 := Lib.hid (((Below.refl _ _).alloc (Nat.le_refl _) _ : Below w.heap.size w _).trans (hb.mono (by simp))); have HX5 := Lib.hid ((hb.block w.heap.size (by simp)).trans (heap_alloc_new _ _)); have d5 : w5.cell? ⟨w.heap.size, 5, none⟩ = some (.int .i64 le) := (by rw [Lib.cell_of_heap HX5.out]; rfl); have d6 : w5.cell? ⟨w.heap.size, 6, none⟩ = some (.slice A n c) := (by rw [Lib.cell_of_heap HX5.out]; rfl); clear hb))
  all_goals
    go_ret
    refine ⟨ret_bool ((may_bool ?_).trans HM.out.symm), by first | exact HB5.out | exact (Below.refl _ _).alloc (Nat.le_refl _) _⟩
    have h0 := H0.out
    have h0' := H0'.out
    clear H0 H0' HM
    (try clear HX5 HB5 d5 d6)
    cases ea <;> cases fa <;> simp [numsM, inb] at * <;> omega
set_option maxRecDepth 100000 in
set_option maxHeartbeats 8000000 in
theorem rmay_e (ki st ep vi fr le : Int) (n m c c' : Nat) (A A' : Option Addr) (ea fa : Bool) (w : World) (h0 : n = 0 → ea = true) (h0' : m = 0 → fa = true)
    (HL : Hid (∀ (X : World) (most : Int), Below w.heap.size w X → Calls Tryd.prog 58 #[.slice A n c, .int .i64 st, .int .i64 most] X (NumPost (.bool (decide ((n : Int) ≤ most) && ea)) X))) (h1 : (ki == 1) = false) (h2 : (ki == 2) = false) (h3 : (ki == 3) = false) (h4 : (ki == 4) = false) (h5 : (ki == 5) = false) (h6 : (ki != 5) = true) :
    Calls Tryd.prog 32 #[.agg #[.int .i64 ki, .int .i64 st, .int .i64 ep, .int .i64 vi, .int .i64 fr, .int .i64 le, .slice A n c, .slice A' m c']] w (NumPost (.bool (decide (numsM ki st ep vi fr le n m) && (ea && fa))) w) := by
  obtain ⟨mb, HM⟩ : ∃ mb, Hid (mb = (decide (numsM ki st ep vi fr le n m) && (ea && fa))) := ⟨_, Lib.hid rfl⟩
  rw [← HM.out]
  have H0 := Lib.hid h0
  have H0' := Lib.hid h0'
  clear h0 h0'
  go_enter Tryd.func32, Tryd.ntmps32
  go_wp2_with (first | (go_at_call 56; (refine (rstream_any _ _).mono ?_); rintro e w' ⟨rfl, rfl⟩) | (go_at_call 57; (refine (repoch_any _ _ _).mono ?_); rintro e w' ⟨rfl, rfl⟩) | (go_at_call 58; (refine (HL.out _ _ ((Below.refl _ _).alloc (Nat.le_refl _) _)).mono ?_); rintro e w5 ⟨rfl, hb⟩; have HB5 := Lib.hid (((Below.refl _ _).alloc (Nat.le_refl _) _ : Below w.heap.size w _).trans (hb.mono (by simp))); have HX5 := Lib.hid ((hb.block w.heap.size (by simp)).trans (heap_alloc_new _ _)); have d5 : w5.cell? ⟨w.heap.size, 5, none⟩ = some (.int .i64 le) := (by rw [Lib.cell_of_heap HX5.out]; rfl); have d6 : w5.cell? ⟨w.heap.size, 6, none⟩ = some (.slice A n c) := (by rw [Lib.cell_of_heap HX5.out]; rfl); clear hb))
  all_goals
    go_ret
    refine ⟨ret_bool ((may_bool ?_).trans HM.out.symm), by first | exact HB5.out | exact (Below.refl _ _).alloc (Nat.le_refl _) _⟩
    have h0 := H0.out
    have h0' := H0'.out
    clear H0 H0' HM
    (try clear HX5 HB5 d5 d6)
    cases ea <;> cases fa <;> simp [numsM, inb] at * <;> omega
end Go.Proofs.YtkdnhfeamibmdaaDoor
