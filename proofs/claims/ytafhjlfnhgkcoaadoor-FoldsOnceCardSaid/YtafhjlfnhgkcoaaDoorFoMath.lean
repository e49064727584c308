/-
  Folds in plain words: where an ID stands first, what a log comes to, entry by entry. No program in this text.
-/
import Derived.Test.YtafhjlfnhgkcoaaDoorAeMath
namespace Go.Proofs.YtafhjlfnhgkcoaaDoor
open Go.RowKit
/-- An entry. -/
structure En where
  ep : Int
  o : Od
  deriving DecidableEq
def En.l (e : En) : List Int := e.ep :: e.o.l
def IntsOk (l : List Int) : Prop := ∀ n ∈ l, -9223372036854775808 ≤ n ∧ n ≤ 9223372036854775807
/-- The place of the first entry with that ID. -/
def firstAt : List En → Int → Option Nat
  | [], _ => none
  | e :: l, id => if e.o.id = id then some 0 else (firstAt l id).map (· + 1)
/-- What Find answers. -/
def findR (l : List En) (id : Int) : Int × Bool :=
  match firstAt l id with
  | some k => ((k : Int), true)
  | none => (0, false)
def again (o : Oc) : Oc := ⟨o.code, o.ver, []⟩
def oc0 : Oc := ⟨0, 0, []⟩
def stepF (f : St × List Oc) (seen : List En) (e : En) : St × List Oc :=
  match firstAt seen e.o.id with
  | some k => (f.1, f.2 ++ [again (f.2.getD k oc0)])
  | none => (apps f.1 (decide_ f.1 e.o).evs, f.2 ++ [decide_ f.1 e.o])
/-- What the first so many entries come to. -/
def upTo (l : List En) : Nat → St × List Oc
  | 0 => (St.zero, [])
  | i + 1 => match l[i]? with
    | some e => stepF (upTo l i) (l.take i) e
    | none => upTo l i
def foldL (l : List En) : St × List Oc := upTo l l.length
theorem firstAt_none {id : Int} : ∀ {l : List En}, firstAt l id = none ↔ ∀ e ∈ l, e.o.id ≠ id
  | [] => by simp [firstAt]
  | e :: l => by
    unfold firstAt
    by_cases h : e.o.id = id
    · simp [h]
    · simp [h, firstAt_none]
theorem firstAt_some {id : Int} : ∀ {l : List En} {k : Nat}, firstAt l id = some k → ∃ h : k < l.length, (l[k].o.id = id ∧ ∀ j, (hj : j < k) → (l[j]'(by omega)).o.id ≠ id)
  | [], _, h => by simp [firstAt] at h
  | e :: l, k, h => by
    unfold firstAt at h
    by_cases he : e.o.id = id
    · simp [he] at h; subst h; exact ⟨by simp, by simpa using he, fun j hj => by omega⟩
    · simp [he] at h
      obtain ⟨k', h1, rfl⟩ := h
      obtain ⟨h2, h3, h4⟩ := firstAt_some h1
      refine ⟨by simpa using h2, by simpa using h3, fun j hj => ?_⟩
      rcases j with _ | j
      · simpa using he
      · simpa using h4 j (by omega)
theorem firstAt_append {id : Int} : ∀ (l m : List En), firstAt (l ++ m) id = match firstAt l id with
    | some k => some k
    | none => (firstAt m id).map (· + l.length)
  | [], m => by simp [firstAt]
  | e :: l, m => by
    simp only [List.cons_append, firstAt]
    by_cases h : e.o.id = id
    · simp [h]
    · simp only [h, if_false]
      rw [firstAt_append l m]
      cases firstAt l id <;> simp [Function.comp_def, Nat.add_assoc]
theorem firstAt_hit {l : List En} {id : Int} {k : Nat} (hk : k < l.length) (h1 : l[k].o.id = id) (h2 : ∀ j, (hj : j < k) → (l[j]'(by omega)).o.id ≠ id) : firstAt l id = some k := by
  cases h : firstAt l id with
  | none => exact absurd h1 (firstAt_none.1 h _ (List.getElem_mem hk))
  | some k' =>
    obtain ⟨a, b, c⟩ := firstAt_some h
    rcases Nat.lt_trichotomy k k' with h' | h' | h'
    · exact absurd h1 (c k h')
    · rw [h']
    · exact absurd b (h2 k' h')
theorem firstAt_lt {l : List En} {id : Int} {k : Nat} (h : firstAt l id = some k) : k < l.length := (firstAt_some h).1
theorem firstAt_take_succ {l : List En} {i : Nat} (hi : i < l.length) (id : Int) : firstAt (l.take (i + 1)) id = match firstAt (l.take i) id with
    | some k => some k
    | none => if l[i].o.id = id then some i else none := by
  rw [List.take_add_one, List.getElem?_eq_getElem hi, firstAt_append]
  cases firstAt (l.take i) id with
  | some k => rfl
  | none =>
    simp only [Option.toList, firstAt]
    by_cases h : l[i].o.id = id
    · simp [h, List.length_take, Nat.min_eq_left (Nat.le_of_lt hi)]
    · simp [h]
theorem stepF_len (f : St × List Oc) (seen : List En) (e : En) : (stepF f seen e).2.length = f.2.length + 1 := by
  unfold stepF; split <;> simp
theorem upTo_succ {l : List En} {i : Nat} (hi : i < l.length) : upTo l (i + 1) = stepF (upTo l i) (l.take i) l[i] := by
  simp only [upTo, List.getElem?_eq_getElem hi]
theorem upTo_len {l : List En} : ∀ {i : Nat}, i ≤ l.length → (upTo l i).2.length = i
  | 0, _ => rfl
  | i + 1, h => by rw [upTo_succ (by omega), stepF_len, upTo_len (by omega)]
theorem upTo_hit {l : List En} {i k : Nat} (hi : i < l.length) (h : firstAt (l.take i) l[i].o.id = some k) : upTo l (i + 1) = ((upTo l i).1, (upTo l i).2 ++ [again ((upTo l i).2.getD k oc0)]) := by
  rw [upTo_succ hi]; unfold stepF; rw [h]
theorem upTo_miss {l : List En} {i : Nat} (hi : i < l.length) (h : firstAt (l.take i) l[i].o.id = none) : upTo l (i + 1) = (apps (upTo l i).1 (decide_ (upTo l i).1 l[i].o).evs, (upTo l i).2 ++ [decide_ (upTo l i).1 l[i].o]) := by
  rw [upTo_succ hi]; unfold stepF; rw [h]
theorem upTo_append {l m : List En} : ∀ {i : Nat}, i ≤ l.length → upTo (l ++ m) i = upTo l i
  | 0, _ => rfl
  | i + 1, h => by
    rw [upTo_succ (by simp; omega), upTo_succ (by omega), upTo_append (by omega), List.getElem_append_left (by omega), List.take_append_of_le_length (by omega)]
theorem foldL_take {l : List En} {i : Nat} (hi : i ≤ l.length) : foldL (l.take i) = upTo l i := by
  have h := upTo_append (l := l.take i) (m := l.drop i) (i := i) (by simp [Nat.min_eq_left hi])
  rw [List.take_append_drop] at h
  unfold foldL
  rw [List.length_take, Nat.min_eq_left hi, h]
theorem foldL_snoc (l : List En) (e : En) : foldL (l ++ [e]) = stepF (foldL l) l e := by
  unfold foldL
  rw [List.length_append, List.length_singleton, upTo_succ (by simp), upTo_append (Nat.le_refl _)]
  simp
theorem foldL_len (l : List En) : (foldL l).2.length = l.length := upTo_len (Nat.le_refl _)
/-- The outcomes of a beginning are a beginning of the outcomes. -/
theorem upTo_prefix {l : List En} : ∀ {j i : Nat}, i ≤ j → j ≤ l.length → (upTo l j).2.take i = (upTo l i).2
  | 0, i, h, _ => by
    obtain rfl : i = 0 := by omega
    rfl
  | j + 1, i, h, hj => by
    by_cases e : i = j + 1
    · subst e; rw [List.take_of_length_le (by rw [upTo_len hj]; exact Nat.le_refl _)]
    · have h2 := upTo_prefix (l := l) (j := j) (i := i) (by omega) (by omega)
      have h3 : ∃ o, (upTo l (j + 1)).2 = (upTo l j).2 ++ [o] := by
        rw [upTo_succ (by omega)]; unfold stepF; split <;> exact ⟨_, rfl⟩
      obtain ⟨o, ho⟩ := h3
      rw [ho, List.take_append_of_le_length (by rw [upTo_len (by omega)]; omega), h2]
theorem upTo_get {l : List En} {i j : Nat} (hi : i < j) (hj : j ≤ l.length) : (upTo l j).2[i]? = (upTo l (i + 1)).2[i]? := by
  rw [← upTo_prefix (l := l) (i := i + 1) (by omega) hj, List.getElem?_take]; simp
theorem upTo_may {l : List En} : ∀ {i : Nat}, i ≤ l.length → (upTo l i).1.may = true
  | 0, _ => (by decide : St.zero.may = true)
  | i + 1, h => by
    have ih := upTo_may (l := l) (i := i) (by omega)
    rw [upTo_succ (by omega)]
    unfold stepF
    split
    · exact ih
    · unfold apps
      have : ∀ (es : List Ev) (s : St), s.may = true → (es.foldl app s).may = true := fun es => by
        induction es with
        | nil => intro s h; exact h
        | cons e es ih => intro s h; exact ih _ (app_may e h)
      exact this _ _ ih
/-- What an outcome says of the state behind it. -/
theorem decide_apps (s : St) (o : Od) : ((decide_ s o).evs = [] ∧ apps s (decide_ s o).evs = s) ∨
    (∃ e, (decide_ s o).evs = [e] ∧ lets s e = true ∧ (decide_ s o).code = 1 ∧ (decide_ s o).ver = s.ver + 1 ∧ apps s (decide_ s o).evs = next s e) := by
  unfold decide_
  split
  · exact .inl ⟨rfl, rfl⟩
  · rename_i h1
    split
    · exact .inl ⟨rfl, rfl⟩
    · split
      · exact .inl ⟨rfl, rfl⟩
      · split
        · exact .inl ⟨rfl, rfl⟩
        · rename_i h4
          have hl : lets s (evOf o) = true := (lets_iff _ _).2 ⟨by simpa using h1, by simpa using h4⟩
          exact .inr ⟨evOf o, rfl, hl, rfl, rfl, by simp [apps, app_yes hl]⟩
/-- Epochs make no difference. -/
def sameOrders (l m : List En) : Prop := l.map En.o = m.map En.o
theorem firstAt_orders {id : Int} : ∀ {l m : List En}, sameOrders l m → firstAt l id = firstAt m id
  | [], [], _ => rfl
  | [], _ :: _, h => by simp [sameOrders] at h
  | _ :: _, [], h => by simp [sameOrders] at h
  | a :: l, b :: m, h => by
    simp only [sameOrders, List.map_cons, List.cons.injEq] at h
    unfold firstAt
    rw [h.1, firstAt_orders (l := l) (m := m) h.2]
theorem upTo_orders {l m : List En} (h : sameOrders l m) : ∀ {i : Nat}, i ≤ l.length → upTo l i = upTo m i
  | 0, _ => rfl
  | i + 1, hi => by
    have hl : l.length = m.length := by simpa using congrArg List.length h
    rw [upTo_succ (by omega), upTo_succ (by omega), upTo_orders h (by omega)]
    have ho : l[i].o = (m[i]'(by omega)).o := by
      have := congrArg (·[i]?) h
      simp only [List.getElem?_map, List.getElem?_eq_getElem (show i < l.length by omega), List.getElem?_eq_getElem (show i < m.length by omega), Option.map_some] at this
      injection this
    unfold stepF
    rw [firstAt_orders (l := l.take i) (m := m.take i) (by unfold sameOrders at *; rw [List.map_take, List.map_take, h]), ho]
theorem foldL_orders {l m : List En} (h : sameOrders l m) : foldL l = foldL m := by
  have hl : l.length = m.length := by simpa using congrArg List.length h
  unfold foldL; rw [upTo_orders h (Nat.le_refl _), hl]
/-- How many events the first so many outcomes have. -/
def evsN (os : List Oc) : Nat := (os.map fun o => o.evs.length).sum
theorem upTo_ver {l : List En} : ∀ {i : Nat}, i ≤ l.length → (upTo l i).1.ver = (evsN (upTo l i).2 : Int)
  | 0, _ => rfl
  | i + 1, h => by
    have ih := upTo_ver (l := l) (i := i) (by omega)
    cases hf : firstAt (l.take i) (l[i]'(by omega)).o.id with
    | some k => rw [upTo_hit (by omega) hf]; simp [evsN, again] at ih ⊢; exact ih
    | none =>
      rw [upTo_miss (by omega) hf]
      rcases decide_apps (upTo l i).1 (l[i]'(by omega)).o with ⟨h1, h2⟩ | ⟨e, h1, h2, h3, h4, h5⟩
      · rw [h2]; simp [evsN, h1] at ih ⊢; exact ih
      · rw [h5]; simp [evsN, h1, next] at ih ⊢; omega
end Go.Proofs.YtafhjlfnhgkcoaaDoor
