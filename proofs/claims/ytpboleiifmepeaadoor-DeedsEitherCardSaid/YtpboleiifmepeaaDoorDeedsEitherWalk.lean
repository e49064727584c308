/-
  The walk of the law DeedsEither: it returns true and writes nothing that was there.
-/
import Derived.Test.YtpboleiifmepeaaDoorDeedsEitherC
namespace Go.Proofs.YtpboleiifmepeaaDoor.deedsEitherW
open Go.RowKit Go.Sort
/-- An event that adds or takes, and may come: the state behind it. -/
theorem comes_two {s : St} {e : Ev} (hl : lets s e = true) (hk : e.k = 2 ∨ e.k = 3) : s.cl = false ∧ 1 ≤ e.a ∧ e.a ≤ 4398046511104 ∧ (-1099511627776 ≤ s.sum ∧ s.sum ≤ 1099511627776) ∧
    next s e = ⟨s.tag, false, if e.k = 2 then s.sum + e.a else s.sum - e.a, s.ver + 1⟩ := by
  obtain ⟨hm, hc⟩ := (lets_iff _ _).1 hl
  have hm := (may_iff _).1 hm
  obtain ⟨h1, h2, h3⟩ := (comes_iff _ _).1 hc
  refine ⟨h2, by omega, by omega, by omega, ?_⟩
  unfold next
  rw [h2]
  rcases hk with hk | hk <;> simp [hk]
theorem walk (s : St) (e f : Ev) (w : World) (hA : Asked w) (_ : s.ints) (_ : e.ints) (_ : f.ints) : Calls Tryd.prog 8 #[s.v, .agg #[.int .i64 e.k, .int .i64 e.a, .int .i64 f.k, .int .i64 f.a]] w (fun e w' => e = .returned (.bool true) ∧ Below w.heap.size w w') := by
  have hM := fun X => lm_any s X
  have HAK := Lib.hid (fun X (hb : Below w.heap.size w X) => hA.keep hb)
  cases hm : s.may
  · rw [hm] at hM
    exact bad s.tag s.cl s.sum s.ver e.k e.a f.k f.a w HAK (Lib.hid hM)
  rw [hm] at hM
  by_cases hk : ¬ (e.k = 2 ∨ e.k = 3)
  · exact no0 s.tag s.cl s.sum s.ver e.k e.a f.k f.a w HAK (Lib.hid hM) (by simp; omega) (by simp; omega)
  replace hk := Decidable.not_not.1 hk
  by_cases hf : ¬ (f.k = 2 ∨ f.k = 3)
  · obtain ⟨k, a⟩ := e
    rcases hk with rfl | rfl
    · exact no1_2 s.tag s.cl s.sum s.ver a f.k f.a w HAK (Lib.hid hM) (by simp; omega) (by simp; omega)
    · exact no1_3 s.tag s.cl s.sum s.ver a f.k f.a w HAK (Lib.hid hM) (by simp; omega) (by simp; omega)
  replace hf := Decidable.not_not.1 hf
  have p1 := fun X => apply_any s e X
  have p2 := fun X => apply_any (app s e) f X
  have p3 := fun X => apply_any s f X
  have p4 := fun X => apply_any (app s f) e X
  cases h1 : lets s e
  · rw [app_no h1] at p1 p2
    obtain ⟨k, a⟩ := e
    obtain ⟨m, b⟩ := f
    rcases hk with rfl | rfl <;> rcases hf with rfl | rfl
    · exact s1_22 s.tag s.cl s.sum s.ver a b _ _ _ _ _ _ _ _ _ _ _ _ 0 w HAK (Lib.hid hM) (Lib.hid p1) (Lib.hid p2) (Lib.hid p3) (Lib.hid p4)
    · exact s1_23 s.tag s.cl s.sum s.ver a b _ _ _ _ _ _ _ _ _ _ _ _ 0 w HAK (Lib.hid hM) (Lib.hid p1) (Lib.hid p2) (Lib.hid p3) (Lib.hid p4)
    · exact s1_32 s.tag s.cl s.sum s.ver a b _ _ _ _ _ _ _ _ _ _ _ _ 0 w HAK (Lib.hid hM) (Lib.hid p1) (Lib.hid p2) (Lib.hid p3) (Lib.hid p4)
    · exact s1_33 s.tag s.cl s.sum s.ver a b _ _ _ _ _ _ _ _ _ _ _ _ 0 w HAK (Lib.hid hM) (Lib.hid p1) (Lib.hid p2) (Lib.hid p3) (Lib.hid p4)
  obtain ⟨hc, ha1, ha2, hx, hn1⟩ := comes_two h1 hk
  rw [app_yes h1, hn1] at p1 p2
  obtain ⟨t, c, x, v⟩ := s
  simp only at hc
  subst hc
  have e1 : ((if e.k = 2 then x + e.a else x - e.a) == x) = false := by split <;> (simp; omega)
  simp only at p1 p2 hx
  cases h2 : lets ⟨t, false, if e.k = 2 then x + e.a else x - e.a, v + 1⟩ f
  · rw [app_no h2] at p2
    obtain ⟨k, a⟩ := e
    obtain ⟨m, b⟩ := f
    rcases hk with rfl | rfl <;> rcases hf with rfl | rfl
    · exact s2_22 t x v a b _ _ _ _ _ _ _ _ _ _ 0 w HAK (Lib.hid hM) (Lib.hid p1) (Lib.hid p2) (Lib.hid p3) (Lib.hid p4) e1
    · exact s2_23 t x v a b _ _ _ _ _ _ _ _ _ _ 0 w HAK (Lib.hid hM) (Lib.hid p1) (Lib.hid p2) (Lib.hid p3) (Lib.hid p4) e1
    · exact s2_32 t x v a b _ _ _ _ _ _ _ _ _ _ 0 w HAK (Lib.hid hM) (Lib.hid p1) (Lib.hid p2) (Lib.hid p3) (Lib.hid p4) e1
    · exact s2_33 t x v a b _ _ _ _ _ _ _ _ _ _ 0 w HAK (Lib.hid hM) (Lib.hid p1) (Lib.hid p2) (Lib.hid p3) (Lib.hid p4) e1
  obtain ⟨-, hb1, hb2, -, hn2⟩ := comes_two h2 hf
  rw [app_yes h2, hn2] at p2
  simp only at p2
  have e2 : ((if f.k = 2 then (if e.k = 2 then x + e.a else x - e.a) + f.a else (if e.k = 2 then x + e.a else x - e.a) - f.a) == (if e.k = 2 then x + e.a else x - e.a)) = false := by split <;> split <;> (simp; omega)
  cases h3 : lets ⟨t, false, x, v⟩ f
  · rw [app_no h3] at p3 p4
    obtain ⟨k, a⟩ := e
    obtain ⟨m, b⟩ := f
    rcases hk with rfl | rfl <;> rcases hf with rfl | rfl
    · exact s3_22 t x v a b _ _ _ _ _ _ _ _ 0 w HAK (Lib.hid hM) (Lib.hid p1) (Lib.hid p2) (Lib.hid p3) (Lib.hid p4) e1 e2
    · exact s3_23 t x v a b _ _ _ _ _ _ _ _ 0 w HAK (Lib.hid hM) (Lib.hid p1) (Lib.hid p2) (Lib.hid p3) (Lib.hid p4) e1 e2
    · exact s3_32 t x v a b _ _ _ _ _ _ _ _ 0 w HAK (Lib.hid hM) (Lib.hid p1) (Lib.hid p2) (Lib.hid p3) (Lib.hid p4) e1 e2
    · exact s3_33 t x v a b _ _ _ _ _ _ _ _ 0 w HAK (Lib.hid hM) (Lib.hid p1) (Lib.hid p2) (Lib.hid p3) (Lib.hid p4) e1 e2
  obtain ⟨-, -, -, -, hn3⟩ := comes_two h3 hf
  rw [app_yes h3, hn3] at p3 p4
  simp only at p3 p4
  have e3 : ((if f.k = 2 then x + f.a else x - f.a) == x) = false := by split <;> (simp; omega)
  cases h4 : lets ⟨t, false, if f.k = 2 then x + f.a else x - f.a, v + 1⟩ e
  · rw [app_no h4] at p4
    obtain ⟨k, a⟩ := e
    obtain ⟨m, b⟩ := f
    rcases hk with rfl | rfl <;> rcases hf with rfl | rfl
    · exact s4_22 t x v a b _ _ _ _ _ w HAK (Lib.hid hM) (Lib.hid p1) (Lib.hid p2) (Lib.hid p3) (Lib.hid p4) e1 e2 e3
    · exact s4_23 t x v a b _ _ _ _ _ w HAK (Lib.hid hM) (Lib.hid p1) (Lib.hid p2) (Lib.hid p3) (Lib.hid p4) e1 e2 e3
    · exact s4_32 t x v a b _ _ _ _ _ w HAK (Lib.hid hM) (Lib.hid p1) (Lib.hid p2) (Lib.hid p3) (Lib.hid p4) e1 e2 e3
    · exact s4_33 t x v a b _ _ _ _ _ w HAK (Lib.hid hM) (Lib.hid p1) (Lib.hid p2) (Lib.hid p3) (Lib.hid p4) e1 e2 e3
  obtain ⟨-, -, -, -, hn4⟩ := comes_two h4 hk
  rw [app_yes h4, hn4] at p4
  simp only at p4
  obtain ⟨k, a⟩ := e
  obtain ⟨m, b⟩ := f
  simp only at ha1 ha2 hb1 hb2
  clear h1 h2 h3 h4 hn1 hn2 hn3 hn4
  rcases hk with rfl | rfl <;> rcases hf with rfl | rfl
  · simp only [if_pos] at *
    rw [show x + b + a = x + a + b by omega] at p4
    exact s5_22 t x v a b w HAK (Lib.hid hM) (Lib.hid p1) (Lib.hid p2) (Lib.hid p3) (Lib.hid p4) e1 e2 e3 (by simp; omega) hx ⟨ha1, ha2⟩ ⟨hb1, hb2⟩
  · have p4' : ∀ X, Calls Tryd.prog 13 #[St.v ⟨t, false, x - b, v + 1⟩, Ev.v ⟨2, a⟩] X (NumPost (St.v ⟨t, false, x + a - b, v + 1 + 1⟩) X) := fun X => by have := p4 X; rw [show x + a - b = x - b + a by omega]; exact this
    exact s5_23 t x v a b w HAK (Lib.hid hM) (Lib.hid p1) (Lib.hid p2) (Lib.hid p3) (Lib.hid p4') e1 e2 e3 (by simp; omega) hx ⟨ha1, ha2⟩ ⟨hb1, hb2⟩
  · have p4' : ∀ X, Calls Tryd.prog 13 #[St.v ⟨t, false, x + b, v + 1⟩, Ev.v ⟨3, a⟩] X (NumPost (St.v ⟨t, false, x - a + b, v + 1 + 1⟩) X) := fun X => by have := p4 X; rw [show x - a + b = x + b - a by omega]; exact this
    exact s5_32 t x v a b w HAK (Lib.hid hM) (Lib.hid p1) (Lib.hid p2) (Lib.hid p3) (Lib.hid p4') e1 e2 e3 (by simp; omega) hx ⟨ha1, ha2⟩ ⟨hb1, hb2⟩
  · have p4' : ∀ X, Calls Tryd.prog 13 #[St.v ⟨t, false, x - b, v + 1⟩, Ev.v ⟨3, a⟩] X (NumPost (St.v ⟨t, false, x - a - b, v + 1 + 1⟩) X) := fun X => by have := p4 X; rw [show x - a - b = x - b - a by omega]; exact this
    exact s5_33 t x v a b w HAK (Lib.hid hM) (Lib.hid p1) (Lib.hid p2) (Lib.hid p3) (Lib.hid p4') e1 e2 e3 (by simp; omega) hx ⟨ha1, ha2⟩ ⟨hb1, hb2⟩
end Go.Proofs.YtpboleiifmepeaaDoor.deedsEitherW
