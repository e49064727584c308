/-
  Plain mathematics of epochs: whose an epoch is, a site's next one, and what a majority of some numbers is at. No program in this text.
-/
import Derived.IntWalk
namespace Epo
/-- So many sites there may be. -/
def sites (n : Int) : Bool := decide (2 ≤ n) && decide (n ≤ 7)
theorem sites_iff (n : Int) : sites n = true ↔ 2 ≤ n ∧ n ≤ 7 := by simp [sites]
/-- It is an epoch. -/
def epoch (e : Int) : Bool := decide (1 ≤ e) && decide (e ≤ 1048576)
theorem epoch_iff (e : Int) : epoch e = true ↔ 1 ≤ e ∧ e ≤ 1048576 := by simp [epoch]
/-- Whose an epoch is. -/
def whose (e n : Int) : Int := if 2 ≤ n ∧ n ≤ 7 ∧ 1 ≤ e ∧ e ≤ 1048576 then (e - 1) % n else -1
/-- How far a site's next epoch is behind the one that follows. -/
def far (e s n : Int) : Int := (s - e % n + n) % n
/-- A site's next epoch, and the error's number. -/
def next (e s n : Int) : Int × Int :=
  if 2 ≤ n ∧ n ≤ 7 ∧ 0 ≤ s ∧ s < n ∧ 0 ≤ e ∧ e ≤ 1048576 then (if e + 1 + far e s n ≤ 1048576 then (e + 1 + far e s n, 0) else (0, 3)) else (0, 2)
/-- How many a majority are. -/
def maj (n : Int) : Int := if 2 ≤ n ∧ n ≤ 7 then n / 2 + 1 else 0
theorem far_at {e s n : Int} (h1 : 2 ≤ n) (h2 : n ≤ 7) (h3 : 0 ≤ s) (h4 : s < n) : 0 ≤ far e s n ∧ far e s n < n ∧ (e + far e s n) % n = s := by
  unfold far
  obtain rfl | rfl | rfl | rfl | rfl | rfl : n = 2 ∨ n = 3 ∨ n = 4 ∨ n = 5 ∨ n = 6 ∨ n = 7 := by omega
  all_goals omega
theorem far_only {e s n j : Int} (h1 : 2 ≤ n) (h2 : n ≤ 7) (h6 : 0 ≤ j) (h7 : j < n) (h : (e + j) % n = s) : j = far e s n := by
  unfold far
  obtain rfl | rfl | rfl | rfl | rfl | rfl : n = 2 ∨ n = 3 ∨ n = 4 ∨ n = 5 ∨ n = 6 ∨ n = 7 := by omega
  all_goals omega
theorem whose_range {e n : Int} : -1 ≤ whose e n ∧ (whose e n < n ∨ whose e n = -1) := by
  unfold whose
  split
  · rename_i h
    obtain ⟨h1, h2, h3, h4⟩ := h
    have := Int.emod_nonneg (e - 1) (show n ≠ 0 by omega)
    have := Int.emod_lt_of_pos (e - 1) (show 0 < n by omega)
    omega
  · omega
/-- Between an epoch and a site's next one none is that site's. -/
theorem next_round {e s n j : Int} (h1 : 2 ≤ n) (h2 : n ≤ 7) (h3 : 0 ≤ s) (h4 : s < n) (h5 : 0 ≤ e) (h6 : 0 ≤ j) (h7 : j < n) :
    whose (e + 1 + j) n = s ↔ j = far e s n ∧ e + 1 + j ≤ 1048576 := by
  unfold whose
  rw [show e + 1 + j - 1 = e + j by omega]
  constructor
  · intro h
    split at h
    · exact ⟨far_only h1 h2 h6 h7 h, by omega⟩
    · omega
  · rintro ⟨rfl, h⟩
    rw [if_pos (by omega)]
    exact (far_at h1 h2 h3 h4).2.2
theorem maj_range {n : Int} (h1 : 2 ≤ n) (h2 : n ≤ 7) : maj n = n / 2 + 1 := if_pos ⟨h1, h2⟩
/-- The greatest number of a list that k of it are at, or above. -/
structure At (l : List Int) (k : Nat) (m : Int) : Prop where
  mem : m ∈ l
  many : k ≤ l.countP (fun x => decide (m ≤ x))
  least : l.countP (fun x => decide (m < x)) < k
theorem count_le {l : List Int} {a b : Int} (h : a < b) : l.countP (fun x => decide (b ≤ x)) ≤ l.countP (fun x => decide (a < x)) :=
  List.countP_mono_left fun x _ hx => by simp at hx ⊢; omega
theorem At.top {l : List Int} {k : Nat} {m x : Int} (h : At l k m) (hx : k ≤ l.countP (fun y => decide (x ≤ y))) : x ≤ m := by
  rcases Int.lt_or_le m x with h1 | h1
  · have := count_le (l := l) h1; have := h.least; omega
  · exact h1
theorem At.same {l : List Int} {k : Nat} {m m' : Int} (h : At l k m) (h' : At l k m') : m = m' := Int.le_antisymm (h'.top h.many) (h.top h'.many)
/-- It hangs on no order. -/
theorem At.perm {l l' : List Int} {k : Nat} {m : Int} (h : At l k m) (hp : l.Perm l') : At l' k m :=
  ⟨hp.mem_iff.1 h.mem, by rw [← hp.countP_eq]; exact h.many, by rw [← hp.countP_eq]; exact h.least⟩
/-- Of numbers that rise it is that one of the place. -/
theorem At.sorted {l : List Int} {k : Nat} (hs : l.Pairwise (· ≤ ·)) (h0 : 0 < k) (hk : k ≤ l.length) : At l k (l.getD (l.length - k) 0) := by
  have hlt : l.length - k < l.length := by omega
  have he : l.getD (l.length - k) 0 = l[l.length - k] := by simp [List.getD, hlt]
  rw [he]
  refine ⟨List.getElem_mem _, ?_, ?_⟩
  · have h1 : (l.drop (l.length - k)).countP (fun x => decide (l[l.length - k] ≤ x)) = k := by
      have hk' : (l.drop (l.length - k)).length = k := by simp; omega
      refine Eq.trans (List.countP_eq_length.2 ?_) hk'
      intro x hx
      obtain ⟨j, hj, rfl⟩ := List.mem_iff_getElem.1 hx
      rw [List.getElem_drop]
      simp only [decide_eq_true_eq]
      rcases Nat.eq_zero_or_pos j with rfl | hj0
      · simp
      · exact List.pairwise_iff_getElem.1 hs _ _ _ _ (by omega)
    have h2 := (List.drop_sublist (l.length - k) l).countP_le (p := fun x => decide (l[l.length - k] ≤ x))
    omega
  · have h1 : (l.take (l.length - k + 1)).countP (fun x => decide (l[l.length - k] < x)) = 0 := by
      rw [List.countP_eq_zero]
      intro x hx
      obtain ⟨j, hj, rfl⟩ := List.mem_iff_getElem.1 hx
      rw [List.getElem_take]
      simp only [decide_eq_true_eq, Int.not_lt]
      have hj' : j < l.length - k + 1 := by simp at hj; omega
      rcases Nat.lt_or_ge j (l.length - k) with h | h
      · exact List.pairwise_iff_getElem.1 hs _ _ _ _ h
      · have : j = l.length - k := by omega
        subst this; simp
    have h2 := List.take_append_drop (l.length - k + 1) l
    have h3 : l.countP (fun x => decide (l[l.length - k] < x)) = (l.take (l.length - k + 1) ++ l.drop (l.length - k + 1)).countP (fun x => decide (l[l.length - k] < x)) := by rw [h2]
    rw [h3, List.countP_append, h1]
    have h4 := List.countP_le_length (p := fun x => decide (l[l.length - k] < x)) (l := l.drop (l.length - k + 1))
    simp at h4 ⊢
    omega
/-- The numbers, rising. -/
def rise (l : List Int) : List Int := l.mergeSort fun x y => decide (x ≤ y)
theorem rise_perm (l : List Int) : (rise l).Perm l := List.mergeSort_perm _ _
theorem rise_len (l : List Int) : (rise l).length = l.length := (rise_perm l).length_eq
theorem rise_up (l : List Int) : (rise l).Pairwise (· ≤ ·) := by
  have := List.pairwise_mergeSort (le := fun x y : Int => decide (x ≤ y)) (fun a b c h1 h2 => by simp at h1 h2 ⊢; omega) (fun a b => by simp; omega) l
  exact this.imp fun h => by simpa using h
def place (l : List Int) (k : Nat) : Int := (rise l).getD (l.length - k) 0
theorem place_at {l : List Int} {k : Nat} (h0 : 0 < k) (hk : k ≤ l.length) : At l k (place l k) := by
  have := At.sorted (rise_up l) h0 (by rw [rise_len]; exact hk)
  rw [rise_len] at this
  exact this.perm (rise_perm l)
/-- What a majority is at. -/
def most (l : List Int) (n : Int) : Int × Bool :=
  if 2 ≤ n ∧ n ≤ 7 ∧ (l.length : Int) ≤ n ∧ n / 2 + 1 ≤ (l.length : Int) then (place l (n / 2 + 1).toNat, true) else (0, false)
theorem most_yes {l : List Int} {n : Int} (h : (most l n).2 = true) : (2 ≤ n ∧ n ≤ 7) ∧ (l.length : Int) ≤ n ∧ n / 2 + 1 ≤ (l.length : Int) ∧ At l (n / 2 + 1).toNat (most l n).1 := by
  unfold most at h ⊢
  split
  · rename_i hc
    exact ⟨⟨hc.1, hc.2.1⟩, hc.2.2.1, hc.2.2.2, place_at (by omega) (by omega)⟩
  · rename_i hc
    rw [if_neg hc] at h; cases h
theorem most_is {l : List Int} {n m : Int} (h1 : 2 ≤ n) (h2 : n ≤ 7) (h3 : (l.length : Int) ≤ n) (h4 : n / 2 + 1 ≤ (l.length : Int)) (h : At l (n / 2 + 1).toNat m) : most l n = (m, true) := by
  unfold most
  rw [if_pos ⟨h1, h2, h3, h4⟩, (place_at (l := l) (k := (n / 2 + 1).toNat) (by omega) (by omega)).same h]
theorem most_no {l : List Int} {n : Int} (h : (most l n).2 = false) : (most l n).1 = 0 ∧ (¬ (2 ≤ n ∧ n ≤ 7) ∨ n < (l.length : Int) ∨ (l.length : Int) < n / 2 + 1) := by
  unfold most at h ⊢
  split
  · rename_i hc
    rw [if_pos hc] at h; cases h
  · rename_i hc
    exact ⟨rfl, by omega⟩
/-- What has been found among the first few. -/
def Found (l : List Int) (k i : Nat) (b : Int) (is : Bool) : Prop :=
  (is = false ∧ b = 0 ∧ ∀ x ∈ l.take i, l.countP (fun y => decide (x ≤ y)) < k) ∨
  (is = true ∧ b ∈ l ∧ k ≤ l.countP (fun y => decide (b ≤ y)) ∧ ∀ x ∈ l.take i, k ≤ l.countP (fun y => decide (x ≤ y)) → x ≤ b)
theorem take_step {l : List Int} {i : Nat} (hi : i < l.length) : l.take (i + 1) = l.take i ++ [l.getD i 0] := by
  rw [List.take_succ_eq_append_getElem hi]; simp [List.getD, hi]
theorem Found.zero (l : List Int) (k : Nat) : Found l k 0 0 false := .inl ⟨rfl, rfl, by simp⟩
theorem Found.miss {l : List Int} {k i : Nat} {b : Int} {is : Bool} (h : Found l k i b is) (hi : i < l.length) (hc : l.countP (fun y => decide (l.getD i 0 ≤ y)) < k) : Found l k (i + 1) b is := by
  rcases h with ⟨h1, h2, h3⟩ | ⟨h1, h2, h3, h4⟩
  · refine .inl ⟨h1, h2, fun x hx => ?_⟩
    rw [take_step hi] at hx
    rcases List.mem_append.1 hx with hx | hx
    · exact h3 x hx
    · obtain rfl := List.mem_singleton.1 hx; exact hc
  · refine .inr ⟨h1, h2, h3, fun x hx hk => ?_⟩
    rw [take_step hi] at hx
    rcases List.mem_append.1 hx with hx | hx
    · exact h4 x hx hk
    · obtain rfl := List.mem_singleton.1 hx; omega
theorem Found.low {l : List Int} {k i : Nat} {b : Int} (h : Found l k i b true) (hi : i < l.length) (hc : l.getD i 0 ≤ b) : Found l k (i + 1) b true := by
  rcases h with ⟨h1, _⟩ | ⟨h1, h2, h3, h4⟩
  · cases h1
  · refine .inr ⟨h1, h2, h3, fun x hx hk => ?_⟩
    rw [take_step hi] at hx
    rcases List.mem_append.1 hx with hx | hx
    · exact h4 x hx hk
    · obtain rfl := List.mem_singleton.1 hx; exact hc
theorem Found.hit {l : List Int} {k i : Nat} {b : Int} {is : Bool} (h : Found l k i b is) (hi : i < l.length) (hc : k ≤ l.countP (fun y => decide (l.getD i 0 ≤ y))) (hb : is = false ∨ b < l.getD i 0) : Found l k (i + 1) (l.getD i 0) true := by
  refine .inr ⟨rfl, by simp [List.getD, hi], hc, fun x hx hk => ?_⟩
  rw [take_step hi] at hx
  rcases List.mem_append.1 hx with hx | hx
  · rcases h with ⟨h1, h2, h3⟩ | ⟨h1, h2, h3, h4⟩
    · have := h3 x hx; omega
    · have := h4 x hx hk
      rcases hb with hb | hb
      · rw [h1] at hb; cases hb
      · omega
  · obtain rfl := List.mem_singleton.1 hx; exact Int.le_refl _
theorem Found.all {l : List Int} {n b : Int} {is : Bool} (h1 : 2 ≤ n) (h2 : n ≤ 7) (h3 : (l.length : Int) ≤ n) (h : Found l (n / 2 + 1).toNat l.length b is) : most l n = (b, is) := by
  unfold Found at h
  rw [List.take_length] at h
  by_cases hk : n / 2 + 1 ≤ (l.length : Int)
  · have ha := place_at (l := l) (k := (n / 2 + 1).toNat) (by omega) (by omega)
    rw [most_is h1 h2 h3 hk ha]
    rcases h with ⟨rfl, rfl, h⟩ | ⟨rfl, h4, h5, h6⟩
    · have := h _ ha.mem; have := ha.many; omega
    · rw [Int.le_antisymm (h6 _ ha.mem ha.many) (ha.top h5)]
  · rcases h with ⟨rfl, rfl, h⟩ | ⟨rfl, h4, h5, h6⟩
    · unfold most; rw [if_neg (by omega)]
    · have := List.countP_le_length (p := fun y => decide (b ≤ y)) (l := l); omega
theorem count_step (l : List Int) (x : Int) (k : Nat) (hk : k < l.length) : (l.take (k + 1)).countP (fun y => decide (x ≤ y)) = (l.take k).countP (fun y => decide (x ≤ y)) + (if x ≤ l.getD k 0 then 1 else 0) := by
  rw [take_step hk, List.countP_append]
  simp [List.countP_cons]
end Epo
