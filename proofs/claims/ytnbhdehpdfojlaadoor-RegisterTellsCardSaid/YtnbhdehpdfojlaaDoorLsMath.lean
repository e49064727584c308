/-
  Logs beside one another in plain words: with how many entries both begin alike, beginnings, the best register, runs of epochs. No program in this text.
-/
import Derived.Test.YtnbhdehpdfojlaaDoorLsBase
namespace Go.Proofs.YtnbhdehpdfojlaaDoor
/-- With how many entries both begin alike. -/
def cp : List En → List En → Nat
  | x :: xs, y :: ys => if x = y then cp xs ys + 1 else 0
  | [], _ => 0
  | _ :: _, [] => 0
theorem cp_le : ∀ (xs ys : List En), cp xs ys ≤ xs.length ∧ cp xs ys ≤ ys.length
  | [], _ => by simp [cp]
  | _ :: _, [] => by simp [cp]
  | x :: xs, y :: ys => by
    have := cp_le xs ys
    by_cases h : x = y <;> simp [cp, h] <;> omega
theorem cp_comm : ∀ (xs ys : List En), cp xs ys = cp ys xs
  | [], [] => rfl
  | [], _ :: _ => by simp [cp]
  | _ :: _, [] => by simp [cp]
  | x :: xs, y :: ys => by
    have := cp_comm xs ys
    by_cases h : x = y
    · subst h; simp [cp, this]
    · have h' : ¬ y = x := fun e => h e.symm
      simp [cp, h, h']
theorem cp_step : ∀ (xs ys : List En) (k : Nat) (_ : k ≤ cp xs ys) (h1 : k < xs.length) (h2 : k < ys.length), (xs[k] = ys[k] → k + 1 ≤ cp xs ys) ∧ (xs[k] ≠ ys[k] → cp xs ys = k)
  | [], _, _, _, h1, _ => by simp at h1
  | _ :: _, [], _, _, _, h2 => by simp at h2
  | x :: xs, y :: ys, 0, _, _, _ => by
    by_cases h : x = y <;> simp [cp, h]
  | x :: xs, y :: ys, k + 1, hk, h1, h2 => by
    by_cases h : x = y
    · have h' := cp_step xs ys k (by simp [cp, h] at hk; omega) (by simpa using h1) (by simpa using h2)
      simp only [cp, h, if_true, List.getElem_cons_succ]
      exact ⟨fun e => by have := h'.1 e; omega, fun e => by have := h'.2 e; omega⟩
    · simp [cp, h] at hk
theorem cp_end {xs ys : List En} {k : Nat} (hk : k ≤ cp xs ys) (h : k = xs.length ∨ k = ys.length) : cp xs ys = k := by
  have := cp_le xs ys
  omega
theorem cp_take : ∀ (xs ys : List En) (n : Nat), cp (xs.take n) ys = min n (cp xs ys)
  | [], ys, n => by simp [cp]
  | _ :: _, [], 0 => by simp [cp]
  | _ :: _, [], n + 1 => by simp [cp]
  | x :: xs, y :: ys, 0 => by simp [cp]
  | x :: xs, y :: ys, n + 1 => by
    have := cp_take xs ys n
    by_cases h : x = y <;> simp [cp, h, this]
theorem cp_self : ∀ (xs : List En), cp xs xs = xs.length
  | [] => rfl
  | x :: xs => by simp [cp, cp_self xs]
theorem cp_iff : ∀ (xs ys : List En), cp xs ys = xs.length ↔ xs <+: ys
  | [], ys => by simp [cp]
  | x :: xs, [] => by simp [cp]
  | x :: xs, y :: ys => by
    have := cp_iff xs ys
    by_cases h : x = y <;> simp [cp, h, List.cons_prefix_cons, this]
/-- Whether the first is a beginning of the second. -/
def pre (xs ys : List En) : Bool := decide (cp xs ys = xs.length)
theorem pre_iff {xs ys : List En} : pre xs ys = true ↔ xs <+: ys := by simp [pre, cp_iff]
theorem pre_self (xs : List En) : pre xs xs = true := by simp [pre, cp_self]
theorem pre_nil (xs : List En) : pre [] xs = true := by simp [pre, cp]
theorem pre_trans {xs ys zs : List En} (h1 : pre xs ys = true) (h2 : pre ys zs = true) : pre xs zs = true := pre_iff.2 ((pre_iff.1 h1).trans (pre_iff.1 h2))
theorem pre_both (xs ys : List En) : (pre xs ys && pre ys xs) = decide (xs = ys) := by
  rw [Bool.eq_iff_iff]
  simp only [Bool.and_eq_true, decide_eq_true_eq, pre_iff]
  exact ⟨fun ⟨h1, h2⟩ => h1.eq_of_length (Nat.le_antisymm h1.length_le h2.length_le), fun h => by subst h; exact ⟨List.prefix_refl _, List.prefix_refl _⟩⟩
theorem pre_take (l : List En) {i j : Nat} (hi : i ≤ l.length) (hj : j ≤ l.length) : cp (l.take i) (l.take j) = min i j ∧ pre (l.take i) (l.take j) = decide (i ≤ j) := by
  have h : cp (l.take i) (l.take j) = min i j := by rw [cp_take, cp_comm, cp_take, cp_self]; omega
  refine ⟨h, ?_⟩
  unfold pre
  rw [h, List.length_take, Nat.min_eq_left hi]
  simp only [decide_eq_decide]
  omega
/-- A register: what is looked at, and what stands beside it. -/
structure Rg where
  p : Int
  v : Int
  A : Option Addr
  n : Nat
  c : Nat
  m : Int
def Rg.val (r : Rg) : Value := .agg #[.int .i64 r.p, .int .i64 r.v, .slice r.A r.n r.c, .int .i64 r.m]
def better (a b : Rg) : Bool := decide (b.v < a.v ∨ (a.v = b.v ∧ b.n < a.n))
def rg0 : Rg := ⟨0, 0, none, 0, 0, 0⟩
/-- The best one of the first so many. -/
def bestUp (l : List Rg) : Nat → Nat
  | 0 => 0
  | k + 1 => if better (l.getD k rg0) (l.getD (bestUp l k) rg0) = true then k else bestUp l k
def bestR (l : List Rg) : Int := if l.length = 0 then -1 else (bestUp l l.length : Int)
theorem better_self (a : Rg) : better a a = false := by simp [better]
theorem best_lt (l : List Rg) : ∀ k, 0 < k → bestUp l k < k
  | 0, h => by omega
  | 1, _ => by
    unfold bestUp
    split
    · omega
    · simp [bestUp]
  | k + 2, _ => by
    have := best_lt l (k + 1) (by omega)
    rw [bestUp]
    split <;> omega
theorem best_is (l : List Rg) : ∀ k i, i < k → better (l.getD i rg0) (l.getD (bestUp l k) rg0) = false ∧ (i < bestUp l k → better (l.getD (bestUp l k) rg0) (l.getD i rg0) = true)
  | 0, i, h => by omega
  | k + 1, i, h => by
    rw [bestUp]
    by_cases hb : better (l.getD k rg0) (l.getD (bestUp l k) rg0) = true
    · rw [if_pos hb]
      by_cases hik : i = k
      · subst hik; exact ⟨better_self _, fun h => by omega⟩
      · have h1 := best_is l k i (by omega)
        refine ⟨?_, fun _ => ?_⟩
        · have := h1.1
          simp only [better, decide_eq_false_iff_not, decide_eq_true_eq] at this hb ⊢
          omega
        · have := h1.1
          simp only [better, decide_eq_false_iff_not, decide_eq_true_eq] at this hb ⊢
          omega
    · rw [if_neg hb]
      by_cases hik : i = k
      · subst hik
        refine ⟨by simpa using hb, fun h => ?_⟩
        rcases Nat.eq_zero_or_pos i with h0 | h0
        · subst h0; simp [bestUp] at h
        · have := best_lt l i h0; omega
      · exact best_is l k i (by omega)
/-- The epoch at a place. -/
def epA (l : List En) (i : Nat) : Int := (l[i]?.map En.ep).getD 0
theorem epA_at {l : List En} {i : Nat} (h : i < l.length) : epA l i = l[i].ep := by simp [epA, h]
theorem epA_take (l : List En) {n i : Nat} (h : i < n) : epA (l.take n) i = epA l i := by simp [epA, List.getElem?_take_of_lt h]
/-- Whether it rises. -/
def risB (l : List En) : Bool := decide (∀ i, i < l.length - 1 → epA l i ≤ epA l (i + 1))
theorem risB_take {l : List En} (n : Nat) (h : risB l = true) : risB (l.take n) = true := by
  simp only [risB, decide_eq_true_eq, List.length_take] at *
  intro i hi
  rw [epA_take l (by omega), epA_take l (by omega)]
  exact h i (by omega)
theorem risB_no {l : List En} {i : Nat} (hi : i + 1 < l.length) (h : epA l (i + 1) < epA l i) : risB l = false := by
  simp only [risB, decide_eq_false_iff_not]
  intro hc
  have := hc i (by omega)
  omega
/-- Whether a place is a seal. -/
def sealB (l : List En) (i : Nat) : Bool := decide (i = l.length ∨ epA l i ≠ epA l (i - 1))
/-- The seals up to a place. -/
def sls (l : List En) : Nat → List Int
  | 0 => []
  | k + 1 => if sealB l (k + 1) = true then sls l k ++ [((k + 1 : Nat) : Int)] else sls l k
def seals (l : List En) : List Int := sls l l.length
theorem sls_len (l : List En) : ∀ k, (sls l k).length ≤ k
  | 0 => by simp [sls]
  | k + 1 => by
    have := sls_len l k
    rw [sls]
    split <;> simp <;> omega
end Go.Proofs.YtnbhdehpdfojlaaDoor
