/-
  Records in plain words: which may be, their numbers one behind the other, their bytes; and how a text of marks is read, by the program and by the document. No program in this text.
-/
import Derived.Test.YtkdnhfeamibmdaaDoorOPure
namespace Go.Proofs.YtkdnhfeamibmdaaDoor
/-- An entry. -/
structure En where
  ep : Int
  o : Od
  deriving DecidableEq
/-- A spot. -/
structure Sp where
  st : Int
  ix : Int
  deriving DecidableEq
def En.l (e : En) : List Int := e.ep :: e.o.l
def Sp.l (x : Sp) : List Int := [x.st, x.ix]
/-- A record. -/
structure Rec where
  ki : Int
  st : Int
  ep : Int
  vi : Int
  fr : Int
  le : Int
  es : List En
  fd : List Sp
  deriving DecidableEq
def Rec.hd (r : Rec) : List Int := [r.ki, r.st, r.ep, r.vi, r.fr, r.le]
def esL (l : List En) : List Int := (l.length : Int) :: (l.map En.l).flatten
def fdL (l : List Sp) : List Int := (l.length : Int) :: (l.map Sp.l).flatten
/-- All its numbers, in the order in which their marks stand. -/
def Rec.l (r : Rec) : List Int := r.hd ++ (esL r.es ++ fdL r.fd)
def Rec.enc (r : Rec) : List UInt8 := markL r.l
def Rec.ints (r : Rec) : Prop := IntsOk r.hd ∧ (∀ e ∈ r.es, IntsOk e.l) ∧ (∀ x ∈ r.fd, IntsOk x.l)
def En.may (st : Int) (e : En) : Bool := decide (1 ≤ e.ep ∧ e.ep ≤ 1048576) && (decide (e.o.st = st) && e.o.may)
def Sp.may (x : Sp) : Bool := decide (0 ≤ x.st ∧ x.st ≤ 3 ∧ 0 ≤ x.ix ∧ x.ix ≤ 63)
/-- May a record have these numbers, so many entries, so many spots? -/
def numsM (ki st ep vi fr le : Int) (n m : Nat) : Prop :=
  (ki = 1 ∧ 0 ≤ st ∧ st ≤ 3 ∧ 1 ≤ ep ∧ ep ≤ 1048576 ∧ vi = 0 ∧ fr = 0 ∧ le = 0 ∧ n = 0 ∧ m = 0) ∨
  (ki = 2 ∧ 0 ≤ st ∧ st ≤ 3 ∧ 1 ≤ ep ∧ ep ≤ 1048576 ∧ vi = 0 ∧ 0 ≤ fr ∧ fr ≤ 64 - (n : Int) ∧ le = 0 ∧ n ≤ 64 ∧ m = 0) ∨
  (ki = 3 ∧ 0 ≤ st ∧ st ≤ 3 ∧ ep = 0 ∧ vi = 0 ∧ fr = 0 ∧ 0 ≤ le ∧ le ≤ 64 ∧ n = 0 ∧ m = 0) ∨
  (ki = 4 ∧ 0 ≤ st ∧ st ≤ 3 ∧ 0 ≤ ep ∧ ep ≤ 1048576 ∧ 0 ≤ vi ∧ vi ≤ 1048576 ∧ fr = 0 ∧ 0 ≤ le ∧ le ≤ (n : Int) ∧ n ≤ 64 ∧ m = 0) ∨
  (ki = 5 ∧ st = 0 ∧ ep = 0 ∧ vi = 0 ∧ fr = 0 ∧ le = 0 ∧ n = 0 ∧ m ≤ 256)
instance (ki st ep vi fr le : Int) (n m : Nat) : Decidable (numsM ki st ep vi fr le n m) := by unfold numsM; infer_instance
def Rec.nums (r : Rec) : Bool := decide (numsM r.ki r.st r.ep r.vi r.fr r.le r.es.length r.fd.length)
def Rec.may (r : Rec) : Bool := r.nums && (r.es.all (En.may r.st) && r.fd.all Sp.may)
def Rec.err (r : Rec) : Int := if r.may then 0 else 2
def Rec.none : Rec := ⟨0, 0, 0, 0, 0, 0, [], []⟩
theorem Rec.bd {r : Rec} (h : r.may = true) : r.es.length ≤ 64 ∧ r.fd.length ≤ 256 ∧ (r.es.length = 0 ∨ r.fd.length = 0) := by
  simp only [Rec.may, Bool.and_eq_true, Rec.nums, decide_eq_true_eq] at h
  have h := h.1
  unfold numsM at h
  omega

/-! ### Marks read, one behind the other -/
/-- At the place 'a' stand the marks of these, up to 'b'. -/
def Rds (l : List UInt8) (a : Nat) (ns : List Int) (b : Nat) : Prop := IntsOk ns ∧ ∃ x y, l = x ++ (markL ns ++ y) ∧ a = x.length ∧ b = x.length + (markL ns).length
theorem markL_append (a b : List Int) : markL (a ++ b) = markL a ++ markL b := by simp [markL]
theorem markL_one (n : Int) : markL [n] = mark n := by simp [markL]
theorem Rds.bd {l : List UInt8} {a b : Nat} {ns : List Int} (h : Rds l a ns b) : a ≤ b ∧ b ≤ l.length := by
  obtain ⟨_, x, y, rfl, rfl, rfl⟩ := h
  simp only [List.length_append]; omega
theorem Rds.nil {l : List UInt8} {a : Nat} (h : a ≤ l.length) : Rds l a [] a :=
  ⟨fun n hn => (by cases hn), l.take a, l.drop a, by simp [markL], by simp; omega, by simp [markL]; omega⟩
theorem Rds.nil_eq {l : List UInt8} {a b : Nat} (h : Rds l a [] b) : b = a := by
  obtain ⟨_, x, y, _, rfl, rfl⟩ := h; simp [markL]
theorem Rds.append {l : List UInt8} {a b c : Nat} {ns ms : List Int} (h : Rds l a ns b) (k : Rds l b ms c) : Rds l a (ns ++ ms) c := by
  obtain ⟨hi, x, y, rfl, rfl, rfl⟩ := h
  obtain ⟨ki, x', y', he, hx, rfl⟩ := k
  have h1 : x' = x ++ markL ns := by
    have e : x ++ (markL ns ++ y) = (x ++ markL ns) ++ y := by simp
    rw [e] at he
    exact (List.append_inj he (by simp only [List.length_append]; omega)).1.symm
  subst h1
  refine ⟨fun n hn => (List.mem_append.1 hn).elim (hi n) (ki n), x, y', ?_, rfl, by simp only [markL_append, List.length_append]; omega⟩
  rw [he, markL_append]; simp
theorem Rds.split {l : List UInt8} {a c : Nat} {ns ms : List Int} (h : Rds l a (ns ++ ms) c) : ∃ b, Rds l a ns b ∧ Rds l b ms c := by
  obtain ⟨hi, x, y, rfl, rfl, rfl⟩ := h
  exact ⟨x.length + (markL ns).length, ⟨fun n hn => hi n (List.mem_append_left _ hn), x, markL ms ++ y, by rw [markL_append]; simp, rfl, rfl⟩,
    ⟨fun n hn => hi n (List.mem_append_right _ hn), x ++ markL ns, y, by rw [markL_append]; simp, by simp, by simp only [markL_append, List.length_append]; omega⟩⟩
theorem got_rds {l : List UInt8} {a b : Nat} {n : Int} : got l (a : Int) = some (n, b) ↔ Rds l a [n] b := by
  rw [got_iff]
  constructor
  · rintro ⟨h, x, y, rfl, hx, rfl⟩
    exact ⟨fun m hm => by simp at hm; subst hm; exact h, x, y, by rw [markL_one], by omega, by rw [markL_one]⟩
  · rintro ⟨h, x, y, rfl, hx, rfl⟩
    exact ⟨h n (by simp), x, y, by rw [markL_one], by omega, by rw [markL_one]⟩
theorem Rds.cons_iff {l : List UInt8} {a c : Nat} {n : Int} {ns : List Int} : Rds l a (n :: ns) c ↔ ∃ b, got l (a : Int) = some (n, b) ∧ Rds l b ns c := by
  constructor
  · intro h
    obtain ⟨b, h1, h2⟩ := Rds.split (ns := [n]) h
    exact ⟨b, got_rds.2 h1, h2⟩
  · rintro ⟨b, h1, h2⟩
    exact (got_rds.1 h1).append h2
theorem Rds.whole {l : List UInt8} {ns : List Int} : Rds l 0 ns l.length ↔ IntsOk ns ∧ l = markL ns := by
  constructor
  · rintro ⟨h, x, y, rfl, hx, hb⟩
    obtain rfl := List.length_eq_zero_iff.1 hx.symm
    simp only [List.nil_append, List.length_append, List.length_nil] at hb ⊢
    obtain rfl := List.length_eq_zero_iff.1 (show y.length = 0 by omega)
    exact ⟨h, by simp⟩
  · rintro ⟨h, rfl⟩
    exact ⟨h, [], [], by simp, rfl, by simp⟩

/-! ### The program's reader: so many numbers, 0 where none stands -/
def nx (l : List UInt8) : Nat → Nat → List Int × Nat × Bool
  | 0, a => ([], a, false)
  | k + 1, a => match got l (a : Int) with
    | .none => (List.replicate (k + 1) 0, a, true)
    | some (n, b) => (n :: (nx l k b).1, (nx l k b).2.1, (nx l k b).2.2)
theorem nx_len (l : List UInt8) : ∀ (k a : Nat), (nx l k a).1.length = k
  | 0, a => rfl
  | k + 1, a => by
    simp only [nx]
    split
    · simp
    · simp [nx_len l k]
theorem nx_rds {l : List UInt8} : ∀ {k a : Nat}, a ≤ l.length → (nx l k a).2.2 = false → Rds l a (nx l k a).1 (nx l k a).2.1
  | 0, a, h, _ => Rds.nil h
  | k + 1, a, h, hf => by
    rcases hg : got l (a : Int) with _ | ⟨n, b⟩
    · simp [nx, hg] at hf
    · simp only [nx, hg] at hf ⊢
      exact Rds.cons_iff.2 ⟨b, hg, nx_rds ((got_rds.1 hg).bd.2) hf⟩
theorem nx_of {l : List UInt8} : ∀ {ns : List Int} {a b : Nat}, Rds l a ns b → nx l ns.length a = (ns, b, false)
  | [], a, b, h => by rw [h.nil_eq]; rfl
  | n :: ns, a, b, h => by
    obtain ⟨c, h1, h2⟩ := Rds.cons_iff.1 h
    simp only [List.length_cons, nx, h1, nx_of h2]
theorem nx_bd {l : List UInt8} : ∀ {k a : Nat}, a ≤ l.length → (nx l k a).2.1 ≤ l.length
  | 0, a, h => h
  | k + 1, a, h => by
    rcases hg : got l (a : Int) with _ | ⟨n, b⟩
    · simpa only [nx, hg] using h
    · simp only [nx, hg]
      exact nx_bd ((got_rds.1 hg).bd.2)
theorem nx_ints {l : List UInt8} : ∀ (k a : Nat), IntsOk (nx l k a).1
  | 0, a => fun n hn => (by cases hn)
  | k + 1, a => by
    rcases hg : got l (a : Int) with _ | ⟨n, b⟩
    · simp only [nx, hg]
      intro m hm
      rw [(List.mem_replicate.1 hm).2]; omega
    · simp only [nx, hg]
      intro m hm
      rcases List.mem_cons.1 hm with rfl | hm
      · exact (got_rds.1 hg).1 _ (by simp)
      · exact nx_ints k b m hm
def many (l : List UInt8) (per : Nat) : Nat → Nat → List (List Int) × Nat × Bool
  | 0, a => ([], a, false)
  | c + 1, a => ((nx l per a).1 :: (many l per c (nx l per a).2.1).1, (many l per c (nx l per a).2.1).2.1, (nx l per a).2.2 || (many l per c (nx l per a).2.1).2.2)
theorem many_len {l : List UInt8} {per : Nat} : ∀ (c a : Nat), (many l per c a).1.length = c
  | 0, a => rfl
  | c + 1, a => by simp [many, many_len c]
theorem many_rds {l : List UInt8} {per : Nat} : ∀ {c a : Nat}, a ≤ l.length → (many l per c a).2.2 = false → Rds l a (many l per c a).1.flatten (many l per c a).2.1
  | 0, a, h, _ => Rds.nil h
  | c + 1, a, h, hf => by
    simp only [many, Bool.or_eq_false_iff] at hf
    simp only [many, List.flatten_cons]
    exact (nx_rds h hf.1).append (many_rds (nx_bd h) hf.2)
theorem many_of {l : List UInt8} {per : Nat} : ∀ {rows : List (List Int)} {a b : Nat}, (∀ r ∈ rows, r.length = per) → Rds l a rows.flatten b → many l per rows.length a = (rows, b, false)
  | [], a, b, _, h => by rw [Rds.nil_eq h]; rfl
  | r :: rows, a, b, hr, h => by
    obtain ⟨c, h1, h2⟩ := Rds.split (ns := r) h
    have hn := nx_of h1
    rw [hr r (by simp)] at hn
    simp only [List.length_cons, many, hn, many_of (fun x hx => hr x (by simp [hx])) h2, Bool.or_false]
theorem many_bd {l : List UInt8} {per : Nat} : ∀ {c a : Nat}, a ≤ l.length → (many l per c a).2.1 ≤ l.length
  | 0, a, h => h
  | c + 1, a, h => by simp only [many]; exact many_bd (nx_bd h)
theorem many_row {l : List UInt8} {per : Nat} : ∀ (c a : Nat), ∀ r ∈ (many l per c a).1, r.length = per ∧ IntsOk r
  | 0, a, r, hr => by cases hr
  | c + 1, a, r, hr => by
    simp only [many, List.mem_cons] at hr
    rcases hr with rfl | hr
    · exact ⟨nx_len _ _ _, nx_ints _ _⟩
    · exact many_row c _ r hr
/-- A list of rows: how many, then these; more than 'most' are none. -/
def lst (l : List UInt8) (per most a : Nat) : List (List Int) × Nat × Bool :=
  if (nx l 1 a).1.getD 0 0 < 0 ∨ (most : Int) < (nx l 1 a).1.getD 0 0 then ([], (nx l 1 a).2.1, true)
  else ((many l per ((nx l 1 a).1.getD 0 0).toNat (nx l 1 a).2.1).1, (many l per ((nx l 1 a).1.getD 0 0).toNat (nx l 1 a).2.1).2.1, (nx l 1 a).2.2 || (many l per ((nx l 1 a).1.getD 0 0).toNat (nx l 1 a).2.1).2.2)
theorem one_of_len {l : List Int} (h : l.length = 1) : l = [l.getD 0 0] := by
  match l, h with
  | [x], _ => rfl
theorem lst_rds {l : List UInt8} {per most a : Nat} (h : a ≤ l.length) (hf : (lst l per most a).2.2 = false) :
    Rds l a (((lst l per most a).1.length : Int) :: (lst l per most a).1.flatten) (lst l per most a).2.1 ∧ (lst l per most a).1.length ≤ most := by
  unfold lst at hf ⊢
  split at hf
  · simp at hf
  · rename_i hc
    rw [if_neg hc]
    simp only [Bool.or_eq_false_iff] at hf
    obtain ⟨h1, h2⟩ := hf
    have r1 := nx_rds h h1
    have r2 := many_rds (nx_bd h) h2
    rw [one_of_len (nx_len l 1 a)] at r1
    simp only [many_len]
    have e : ((((nx l 1 a).1.getD 0 0).toNat : Nat) : Int) = (nx l 1 a).1.getD 0 0 := by omega
    rw [e]
    exact ⟨r1.append r2, by omega⟩
theorem lst_of {l : List UInt8} {per most a b : Nat} {rows : List (List Int)} (hr : ∀ r ∈ rows, r.length = per) (hm : rows.length ≤ most) (h : Rds l a ((rows.length : Int) :: rows.flatten) b) : lst l per most a = (rows, b, false) := by
  obtain ⟨c, h1, h2⟩ := Rds.split (ns := [(rows.length : Int)]) h
  have e := nx_of h1
  simp only [List.length_cons, List.length_nil, Nat.zero_add] at e
  unfold lst
  rw [e]
  simp only [List.getD_cons_zero, Int.toNat_natCast, many_of hr h2, Bool.or_false]
  rw [if_neg (by omega)]
theorem lst_bd {l : List UInt8} {per most a : Nat} (h : a ≤ l.length) : (lst l per most a).2.1 ≤ l.length := by
  unfold lst
  split
  · exact nx_bd h
  · exact many_bd (nx_bd h)
theorem lst_row {l : List UInt8} {per most a : Nat} : ∀ r ∈ (lst l per most a).1, r.length = per ∧ IntsOk r := by
  intro r hr
  unfold lst at hr
  split at hr
  · cases hr
  · exact many_row _ _ r hr

/-! ### Rows and what they are of -/
def enOf (l : List Int) : En := ⟨l.getD 0 0, ⟨l.getD 1 0, l.getD 2 0, l.getD 3 0, l.getD 4 0, l.getD 5 0⟩⟩
def spOf (l : List Int) : Sp := ⟨l.getD 0 0, l.getD 1 0⟩
theorem enOf_l (e : En) : enOf e.l = e := rfl
theorem spOf_l (x : Sp) : spOf x.l = x := rfl
theorem l_enOf {l : List Int} (h : l.length = 6) : (enOf l).l = l := by
  match l, h with
  | [a, b, c, d, e, f], _ => rfl
theorem l_spOf {l : List Int} (h : l.length = 2) : (spOf l).l = l := by
  match l, h with
  | [a, b], _ => rfl
theorem map_enOf {rows : List (List Int)} (h : ∀ r ∈ rows, r.length = 6) : (rows.map enOf).map En.l = rows := by
  rw [List.map_map]
  conv => rhs; rw [← List.map_id rows]
  exact List.map_congr_left fun r hr => l_enOf (h r hr)
theorem map_spOf {rows : List (List Int)} (h : ∀ r ∈ rows, r.length = 2) : (rows.map spOf).map Sp.l = rows := by
  rw [List.map_map]
  conv => rhs; rw [← List.map_id rows]
  exact List.map_congr_left fun r hr => l_spOf (h r hr)
def recOf (h : List Int) (es fd : List (List Int)) : Rec := ⟨h.getD 0 0, h.getD 1 0, h.getD 2 0, h.getD 3 0, h.getD 4 0, h.getD 5 0, es.map enOf, fd.map spOf⟩
theorem hd_recOf {h : List Int} (hl : h.length = 6) (es fd : List (List Int)) : (recOf h es fd).hd = h := by
  match h, hl with
  | [a, b, c, d, e, f], _ => rfl
theorem recOf_l (r : Rec) : recOf r.hd (r.es.map En.l) (r.fd.map Sp.l) = r := by
  obtain ⟨a, b, c, d, e, f, es, fd⟩ := r
  simp only [recOf, Rec.hd, List.getD_cons_zero, List.getD_cons_succ, List.map_map]
  congr 1
  · conv => rhs; rw [← List.map_id es]
    exact List.map_congr_left fun r _ => rfl
  · conv => rhs; rw [← List.map_id fd]
    exact List.map_congr_left fun r _ => rfl
theorem l_recOf {h : List Int} {es fd : List (List Int)} (hl : h.length = 6) (he : ∀ r ∈ es, r.length = 6) (hf : ∀ r ∈ fd, r.length = 2) :
    (recOf h es fd).l = h ++ (((es.length : Int) :: es.flatten) ++ ((fd.length : Int) :: fd.flatten)) := by
  unfold Rec.l
  rw [hd_recOf hl]
  simp only [recOf, esL, fdL, map_enOf he, map_spOf hf, List.length_map]
/-- What the program reads of a text: the head, the entries, the spots; how far; did it fail? -/
def rdR (l : List UInt8) : Rec := recOf (nx l 6 0).1 (lst l 6 64 (nx l 6 0).2.1).1 (lst l 2 256 (lst l 6 64 (nx l 6 0).2.1).2.1).1
def rdBad (l : List UInt8) : Bool := ((nx l 6 0).2.2 || (lst l 6 64 (nx l 6 0).2.1).2.2) || (lst l 2 256 (lst l 6 64 (nx l 6 0).2.1).2.1).2.2
def rdEnd (l : List UInt8) : Nat := (lst l 2 256 (lst l 6 64 (nx l 6 0).2.1).2.1).2.1
/-- The record of these bytes, whether it may be or not. -/
def rd (l : List UInt8) : Option Rec := if rdBad l = true ∨ rdEnd l ≠ l.length then .none else some (rdR l)
def decR? (l : List UInt8) : Option Rec := match rd l with
  | .none => .none
  | some r => if r.may then some r else .none
theorem ints_l {r : Rec} (h : r.ints) (h1 : r.es.length ≤ 100000) (h2 : r.fd.length ≤ 100000) : IntsOk r.l := by
  intro n hn
  simp only [Rec.l, esL, fdL, List.mem_append, List.mem_cons, List.mem_flatten, List.mem_map] at hn
  rcases hn with hn | (rfl | ⟨_, ⟨e, he, rfl⟩, hn⟩) | (rfl | ⟨_, ⟨e, he, rfl⟩, hn⟩)
  · exact h.1 n hn
  · omega
  · exact h.2.1 e he n hn
  · omega
  · exact h.2.2 e he n hn
theorem rd_some {l : List UInt8} {r : Rec} (h : rd l = some r) : r.enc = l ∧ r.es.length ≤ 64 ∧ r.fd.length ≤ 256 ∧ IntsOk r.l := by
  unfold rd at h
  split at h
  · cases h
  · rename_i hc
    simp only [not_or, Bool.not_eq_true, ne_eq, Decidable.not_not] at hc
    obtain ⟨h1, h2⟩ := hc
    simp only [rdBad, Bool.or_eq_false_iff] at h1
    obtain ⟨⟨b1, b2⟩, b3⟩ := h1
    have r1 := nx_rds (Nat.zero_le _) b1
    obtain ⟨r2, m2⟩ := lst_rds (nx_bd (Nat.zero_le _)) b2
    obtain ⟨r3, m3⟩ := lst_rds (lst_bd (nx_bd (Nat.zero_le _))) b3
    have r4 := r1.append (r2.append r3)
    have hl := l_recOf (h := (nx l 6 0).1) (es := (lst l 6 64 (nx l 6 0).2.1).1) (fd := (lst l 2 256 (lst l 6 64 (nx l 6 0).2.1).2.1).1) (nx_len _ _ _) (fun r hr => (lst_row r hr).1) (fun r hr => (lst_row r hr).1)
    rw [show recOf _ _ _ = r from Option.some.inj h] at hl
    rw [← hl] at r4
    rw [show (lst l 2 256 (lst l 6 64 (nx l 6 0).2.1).2.1).2.1 = l.length from h2] at r4
    obtain ⟨i4, e4⟩ := Rds.whole.1 r4
    refine ⟨e4.symm, ?_, ?_, i4⟩
    · rw [← Option.some.inj h]; simpa [rdR, recOf] using m2
    · rw [← Option.some.inj h]; simpa [rdR, recOf] using m3
theorem rd_of {r : Rec} (hi : IntsOk r.l) (h1 : r.es.length ≤ 64) (h2 : r.fd.length ≤ 256) : rd r.enc = some r := by
  have hw := Rds.whole.2 ⟨hi, rfl⟩
  obtain ⟨a, w1, w2⟩ := Rds.split (ns := r.hd) hw
  obtain ⟨b, w3, w4⟩ := Rds.split (ns := esL r.es) w2
  have e1 := nx_of w1
  have e2 := lst_of (rows := r.es.map En.l) (per := 6) (most := 64) (fun x hx => by obtain ⟨e, _, rfl⟩ := List.mem_map.1 hx; rfl) (by simpa using h1) (by simpa [esL] using w3)
  have e3 := lst_of (rows := r.fd.map Sp.l) (per := 2) (most := 256) (fun x hx => by obtain ⟨e, _, rfl⟩ := List.mem_map.1 hx; rfl) (by simpa using h2) (by simpa [fdL] using w4)
  rw [show r.hd.length = 6 from rfl] at e1
  have hb : rdBad r.enc = false := by unfold rdBad Rec.enc; rw [e1, e2, e3]; rfl
  have he : rdEnd r.enc = r.enc.length := by unfold rdEnd Rec.enc; rw [e1, e2, e3]
  have hr : rdR r.enc = r := by unfold rdR Rec.enc; rw [e1, e2, e3]; exact recOf_l r
  unfold rd
  rw [if_neg (by rw [hb, he]; simp), hr]
theorem may_intsO {o : Od} (h : o.may = true) : IntsOk o.l := by
  simp only [Od.may, decide_eq_true_eq] at h
  intro n hn
  simp only [Od.l, List.mem_cons, List.not_mem_nil, or_false] at hn
  omega
theorem Rec.may_ints {r : Rec} (h : r.may = true) : r.ints := by
  have hb := Rec.bd h
  simp only [Rec.may, Bool.and_eq_true, List.all_eq_true, Rec.nums, decide_eq_true_eq] at h
  obtain ⟨h1, h2, h3⟩ := h
  refine ⟨?_, fun e he => ?_, fun x hx => ?_⟩
  · intro n hn
    simp only [Rec.hd, List.mem_cons, List.not_mem_nil, or_false] at hn
    unfold numsM at h1
    omega
  · have := h2 e he
    simp only [En.may, Bool.and_eq_true, decide_eq_true_eq] at this
    intro n hn
    rcases List.mem_cons.1 hn with rfl | hn
    · omega
    · exact may_intsO this.2.2 n hn
  · have := h3 x hx
    simp only [Sp.may, decide_eq_true_eq] at this
    intro n hn
    simp only [Sp.l, List.mem_cons, List.not_mem_nil, or_false] at hn
    omega
theorem decR_iff {l : List UInt8} {r : Rec} : decR? l = some r ↔ r.may = true ∧ r.enc = l := by
  constructor
  · intro h
    unfold decR? at h
    rcases hr : rd l with _ | x
    · rw [hr] at h; cases h
    · rw [hr] at h
      dsimp only at h
      split at h
      · rename_i hm
        obtain rfl := Option.some.inj h
        exact ⟨hm, (rd_some hr).1⟩
      · cases h
  · rintro ⟨hm, rfl⟩
    have hb := Rec.bd hm
    unfold decR?
    rw [rd_of (ints_l (Rec.may_ints hm) (by omega) (by omega)) hb.1 hb.2.1]
    simp [hm]
theorem decR_none_iff {l : List UInt8} : decR? l = none ↔ ∀ r : Rec, r.may = true → r.enc ≠ l := by
  constructor
  · intro h r hm he
    rw [decR_iff.2 ⟨hm, he⟩] at h
    cases h
  · intro h
    rcases hd : decR? l with _ | r
    · rfl
    · obtain ⟨h1, h2⟩ := decR_iff.1 hd
      exact (h r h1 h2).elim
theorem markL_len {ns : List Int} (h : IntsOk ns) : ns.length ≤ (markL ns).length ∧ (markL ns).length ≤ ns.length * 10 := by
  induction ns with
  | nil => simp [markL]
  | cons n ns ih =>
    obtain ⟨i1, i2⟩ := ih fun m hm => h m (by simp [hm])
    have h1 : 1 ≤ (mark n).length := Go.Lib.uvarint_pos _
    have h2 : (mark n).length ≤ 10 := Go.Lib.uvarint_length64 (Go.Lib.zigzag_lt (h n (by simp)).1 (h n (by simp)).2)
    have e : markL (n :: ns) = mark n ++ markL ns := by simp [markL]
    rw [e, List.length_append, List.length_cons]
    omega
theorem flatten_len {α : Type} {k : Nat} : ∀ {rows : List (List α)}, (∀ r ∈ rows, r.length = k) → rows.flatten.length = rows.length * k
  | [], _ => by simp
  | r :: rows, h => by
    rw [List.flatten_cons, List.length_append, h r (by simp), flatten_len (rows := rows) fun x hx => h x (by simp [hx]), List.length_cons, Nat.succ_mul]
    omega
theorem Rec.l_len (r : Rec) : r.l.length = 8 + r.es.length * 6 + r.fd.length * 2 := by
  have h1 := flatten_len (rows := r.es.map En.l) (k := 6) (fun x hx => by obtain ⟨e, _, rfl⟩ := List.mem_map.1 hx; rfl)
  have h2 := flatten_len (rows := r.fd.map Sp.l) (k := 2) (fun x hx => by obtain ⟨e, _, rfl⟩ := List.mem_map.1 hx; rfl)
  simp only [List.length_map] at h1 h2
  simp only [Rec.l, esL, fdL, Rec.hd, List.length_append, List.length_cons, List.length_nil, h1, h2]
  omega
theorem Rec.fits {r : Rec} (h : r.may = true) : r.enc.length < 8192 := by
  have hb := Rec.bd h
  have := (markL_len (ints_l (Rec.may_ints h) (by omega) (by omega))).2
  rw [Rec.l_len] at this
  unfold Rec.enc
  omega

/-! ### The document's reader: once a mark lacks, all is 0 -/
def ri (l : List UInt8) (a : Nat) (bad : Bool) : Int × Nat × Bool :=
  if bad then (0, a, true) else match got l (a : Int) with
    | .none => (0, a, true)
    | some (n, b) => (n, b, false)
def ris (l : List UInt8) : Nat → Nat → Bool → List Int × Nat × Bool
  | 0, a, bad => ([], a, bad)
  | k + 1, a, bad => ((ri l a bad).1 :: (ris l k (ri l a bad).2.1 (ri l a bad).2.2).1, (ris l k (ri l a bad).2.1 (ri l a bad).2.2).2)
/-- A list of rows, so many at most, while none lacks. -/
def rrows (l : List UInt8) (per : Nat) : Nat → Nat → Bool → List (List Int) × Nat × Bool
  | 0, a, bad => ([], a, bad)
  | c + 1, a, bad => if bad then ([], a, true) else ((ris l per a false).1 :: (rrows l per c (ris l per a false).2.1 (ris l per a false).2.2).1, (rrows l per c (ris l per a false).2.1 (ris l per a false).2.2).2)
def rlst (l : List UInt8) (per a : Nat) (bad : Bool) : List (List Int) × Nat × Bool :=
  rrows l per (ri l a bad).1.toNat (ri l a bad).2.1 (ri l a bad).2.2
theorem ri_of {l : List UInt8} {a b : Nat} {n : Int} (h : got l (a : Int) = some (n, b)) : ri l a false = (n, b, false) := by
  simp [ri, h]
theorem ris_of {l : List UInt8} : ∀ {ns : List Int} {a b : Nat}, Rds l a ns b → ris l ns.length a false = (ns, b, false)
  | [], a, b, h => by rw [h.nil_eq]; rfl
  | n :: ns, a, b, h => by
    obtain ⟨c, h1, h2⟩ := Rds.cons_iff.1 h
    simp only [List.length_cons, ris, ri_of h1, ris_of h2]
theorem rrows_of {l : List UInt8} {per : Nat} : ∀ {rows : List (List Int)} {a b : Nat}, (∀ r ∈ rows, r.length = per) → Rds l a rows.flatten b → rrows l per rows.length a false = (rows, b, false)
  | [], a, b, _, h => by rw [Rds.nil_eq h]; rfl
  | r :: rows, a, b, hr, h => by
    obtain ⟨c, h1, h2⟩ := Rds.split (ns := r) h
    have hn := ris_of h1
    rw [hr r (by simp)] at hn
    simp only [List.length_cons, rrows, hn, rrows_of (fun x hx => hr x (by simp [hx])) h2, Bool.false_eq_true, if_false]
theorem rlst_of {l : List UInt8} {per a b : Nat} {rows : List (List Int)} (hr : ∀ r ∈ rows, r.length = per) (h : Rds l a ((rows.length : Int) :: rows.flatten) b) : rlst l per a false = (rows, b, false) := by
  obtain ⟨c, h1, h2⟩ := Rds.cons_iff.1 h
  unfold rlst
  rw [ri_of h1]
  simp only [Int.toNat_natCast, rrows_of hr h2]
/-- What the document's reader reads of a text. -/
def rrR (l : List UInt8) : Rec := recOf (ris l 6 0 false).1 (rlst l 6 (ris l 6 0 false).2.1 (ris l 6 0 false).2.2).1
  (rlst l 2 (rlst l 6 (ris l 6 0 false).2.1 (ris l 6 0 false).2.2).2.1 (rlst l 6 (ris l 6 0 false).2.1 (ris l 6 0 false).2.2).2.2).1
def rrBad (l : List UInt8) : Bool := (rlst l 2 (rlst l 6 (ris l 6 0 false).2.1 (ris l 6 0 false).2.2).2.1 (rlst l 6 (ris l 6 0 false).2.1 (ris l 6 0 false).2.2).2.2).2.2
theorem rr_of {r : Rec} (hi : IntsOk r.l) : rrR r.enc = r ∧ rrBad r.enc = false := by
  have hw := Rds.whole.2 ⟨hi, rfl⟩
  obtain ⟨a, w1, w2⟩ := Rds.split (ns := r.hd) hw
  obtain ⟨b, w3, w4⟩ := Rds.split (ns := esL r.es) w2
  have e1 := ris_of w1
  have e2 := rlst_of (rows := r.es.map En.l) (per := 6) (fun x hx => by obtain ⟨e, _, rfl⟩ := List.mem_map.1 hx; rfl) (by simpa [esL] using w3)
  have e3 := rlst_of (rows := r.fd.map Sp.l) (per := 2) (fun x hx => by obtain ⟨e, _, rfl⟩ := List.mem_map.1 hx; rfl) (by simpa [fdL] using w4)
  rw [show r.hd.length = 6 from rfl] at e1
  exact ⟨by unfold rrR Rec.enc; rw [e1]; dsimp only; rw [e2]; dsimp only; rw [e3]; exact recOf_l r, by unfold rrBad Rec.enc; rw [e1]; dsimp only; rw [e2]; dsimp only; rw [e3]⟩
/-- The document's answer: what was read, if nothing lacked, it may be, and its bytes are the text. -/
theorem rr_dec {l : List UInt8} : (rrBad l = false ∧ (rrR l).may = true ∧ (rrR l).enc = l → decR? l = some (rrR l)) ∧ (¬ (rrBad l = false ∧ (rrR l).may = true ∧ (rrR l).enc = l) → decR? l = none) := by
  constructor
  · rintro ⟨_, h1, h2⟩
    exact decR_iff.2 ⟨h1, h2⟩
  · intro h
    refine decR_none_iff.2 fun r hm he => h ?_
    have hb := Rec.bd hm
    obtain ⟨h1, h2⟩ := rr_of (ints_l (Rec.may_ints hm) (by omega) (by omega))
    rw [he] at h1 h2
    rw [h1]
    exact ⟨h2, hm, he⟩
end Go.Proofs.YtkdnhfeamibmdaaDoor
