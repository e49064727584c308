/-
  Messages in plain words: which may be among so many sites, their numbers one behind the other, their bytes, and how the program reads them.
-/
import Derived.Test.YtkdnhfeamibmdaaDoorRcAsk
namespace Go.Proofs.YtkdnhfeamibmdaaDoor

/-- A message. -/
structure Ml where
  ki : Int
  fr : Int
  tt : Int
  st : Int
  ep : Int
  vi : Int
  ba : Int
  le : Int
  sp : Int
  es : List En
  o : Od
  ai : Int
  ac : Int
  av : Int
def Ml.hd (m : Ml) : List Int := [m.ki, m.fr, m.tt, m.st, m.ep, m.vi, m.ba, m.le, m.sp]
def Ml.tl (m : Ml) : List Int := m.o.l ++ [m.ai, m.ac, m.av]
/-- All its numbers, in the order in which their marks stand. -/
def Ml.l (m : Ml) : List Int := m.hd ++ (esL m.es ++ m.tl)
def Ml.enc (m : Ml) : List UInt8 := markL m.l
def Ml.ints (m : Ml) : Prop := IntsOk m.hd ∧ (∀ e ∈ m.es, IntsOk e.l) ∧ IntsOk m.tl
/-- Which fields a kind has, as bits: stream 1, epoch 2, view 4, base 8, length 16, stamp 32, entries 64, order 128, answer 256. -/
def bitsK (ki ep : Int) : Nat :=
  if ki = 1 then 35 else if ki = 2 then 119 else if ki = 3 then (if ep = 0 then 1 else 3) else if ki = 4 then 123 else if ki = 5 then 51
  else if ki = 6 then 19 else if ki = 7 then 128 else if ki = 8 then 257 else if ki = 9 then 3 else if ki = 10 then 3 else 0
def fld (b : Bool) (lo hi x : Int) : Bool := if b then inb lo hi x else decide (x = 0)
def isSite (s n : Int) : Bool := decide (2 ≤ n ∧ n ≤ 7 ∧ 0 ≤ s ∧ s < n)
def numsA (f : Nat) (st ep vi ba le sp : Int) : Bool :=
  fld (f.testBit 0) 0 3 st && (fld (f.testBit 1) 1 1048576 ep && (fld (f.testBit 2) 0 1048576 vi && (fld (f.testBit 3) 0 64 ba && (fld (f.testBit 4) 0 64 le && fld (f.testBit 5) 0 1073741824 sp))))
/-- The record of a view that has these entries. -/
def viewR (st ep ba : Int) (es : List En) : Rec := ⟨2, st, ep, 0, ba, 0, es, []⟩
def entsA (f : Nat) (st ep ba le : Int) (es : List En) : Bool :=
  if f.testBit 6 then ((f.testBit 3 || decide (le ≤ (es.length : Int))) && (viewR st ep ba es).may) else decide (es.length = 0)
def ordA (f : Nat) (o : Od) : Bool := if f.testBit 7 then o.may else decide (o = Od.none)
def ansA (f : Nat) (ai ac av : Int) : Bool := if f.testBit 8 then (inb 1 2147483647 ai && (inb 1 7 ac && inb 0 64 av)) else decide (ai = 0 ∧ ac = 0 ∧ av = 0)
def Ml.may (n : Int) (m : Ml) : Bool :=
  (decide (1 ≤ m.ki ∧ m.ki ≤ 10) && (isSite m.fr n && isSite m.tt n)) &&
    (numsA (bitsK m.ki m.ep) m.st m.ep m.vi m.ba m.le m.sp && (entsA (bitsK m.ki m.ep) m.st m.ep m.ba m.le m.es && (ordA (bitsK m.ki m.ep) m.o && ansA (bitsK m.ki m.ep) m.ai m.ac m.av)))
def Ml.err (n : Int) (m : Ml) : Int := if m.may n then 0 else 2
theorem viewR_may (st ep ba : Int) (es : List En) : (viewR st ep ba es).may = true ↔ (0 ≤ st ∧ st ≤ 3 ∧ 1 ≤ ep ∧ ep ≤ 1048576 ∧ 0 ≤ ba ∧ ba ≤ 64 - (es.length : Int)) ∧ es.all (En.may st) = true := by
  have h : (viewR st ep ba es).nums = true ↔ (0 ≤ st ∧ st ≤ 3 ∧ 1 ≤ ep ∧ ep ≤ 1048576 ∧ 0 ≤ ba ∧ ba ≤ 64 - (es.length : Int)) := by
    unfold Rec.nums
    rw [decide_eq_true_eq]
    show numsM 2 st ep 0 ba 0 es.length 0 ↔ _
    unfold numsM
    constructor
    · intro h; omega
    · intro h; exact Or.inr (Or.inl (by omega))
  unfold Rec.may
  rw [Bool.and_eq_true, h]
  simp [viewR]
theorem bitsK_cases (ki ep : Int) : bitsK ki ep ∈ [35, 119, 1, 3, 123, 51, 19, 128, 257, 0] := by
  unfold bitsK
  repeat' split
  all_goals simp
/-- What a message that may be is sure to be. -/
theorem Ml.may_es {n : Int} {m : Ml} (h : m.may n = true) : m.es.length ≤ 64 := by
  simp only [Ml.may, Bool.and_eq_true] at h
  obtain ⟨_, _, h, _⟩ := h
  unfold entsA at h
  split at h
  · simp only [Bool.and_eq_true] at h
    have := ((viewR_may _ _ _ _).1 h.2).1
    omega
  · have := of_decide_eq_true h
    omega
theorem fld_bd {b : Bool} {lo hi x : Int} (h : fld b lo hi x = true) (h0 : -1048576 ≤ lo) (h1 : hi ≤ 1073741824) : -9223372036854775808 ≤ x ∧ x ≤ 9223372036854775807 := by
  unfold fld inb at h
  cases b
  · simp at h; omega
  · simp at h; omega
theorem En.may_ints {st : Int} {e : En} (h : e.may st = true) : IntsOk e.l := by
  simp only [En.may, Bool.and_eq_true, decide_eq_true_eq] at h
  intro n hn
  rcases List.mem_cons.1 hn with rfl | hn
  · omega
  · exact may_intsO h.2.2 n hn
theorem Ml.may_ints {n : Int} {m : Ml} (h : m.may n = true) : m.ints := by
  simp only [Ml.may, Bool.and_eq_true] at h
  obtain ⟨⟨h1, h2, h3⟩, h4, h5, h6, h7⟩ := h
  simp only [numsA, Bool.and_eq_true] at h4
  obtain ⟨a1, a2, a3, a4, a5, a6⟩ := h4
  have a1 := fld_bd a1 (by decide) (by decide)
  have a2 := fld_bd a2 (by decide) (by decide)
  have a3 := fld_bd a3 (by decide) (by decide)
  have a4 := fld_bd a4 (by decide) (by decide)
  have a5 := fld_bd a5 (by decide) (by decide)
  have a6 := fld_bd a6 (by decide) (by decide)
  simp only [isSite, decide_eq_true_eq] at h1 h2 h3
  refine ⟨?_, ?_, ?_⟩
  · intro x hx
    simp only [Ml.hd, List.mem_cons, List.not_mem_nil, or_false] at hx
    rcases hx with rfl | rfl | rfl | rfl | rfl | rfl | rfl | rfl | rfl <;> first | assumption | omega
  · intro e he
    unfold entsA at h5
    split at h5
    · simp only [Bool.and_eq_true] at h5
      exact En.may_ints (List.all_eq_true.1 ((viewR_may _ _ _ _).1 h5.2).2 e he)
    · have h0 := of_decide_eq_true h5
      rw [List.length_eq_zero_iff.1 h0] at he
      cases he
  · intro x hx
    rcases List.mem_append.1 hx with hx | hx
    · unfold ordA at h6
      split at h6
      · exact may_intsO h6 x hx
      · have h0 := of_decide_eq_true h6
        rw [h0] at hx
        simp [Od.none, Od.l] at hx
        omega
    · simp only [List.mem_cons, List.not_mem_nil, or_false] at hx
      unfold ansA inb at h7
      split at h7
      · simp at h7
        rcases hx with rfl | rfl | rfl <;> omega
      · simp at h7
        rcases hx with rfl | rfl | rfl <;> omega
theorem Ml.ints_l {m : Ml} (h : m.ints) (h1 : m.es.length ≤ 100000) : IntsOk m.l := by
  intro n hn
  simp only [Ml.l, esL, List.mem_append, List.mem_cons, List.mem_flatten, List.mem_map] at hn
  rcases hn with hn | (rfl | ⟨_, ⟨e, he, rfl⟩, hn⟩) | hn
  · exact h.1 n hn
  · omega
  · exact h.2.1 e he n hn
  · exact h.2.2 n hn
theorem Ml.l_len (m : Ml) : m.l.length = 18 + m.es.length * 6 := by
  have h1 := flatten_len (rows := m.es.map En.l) (k := 6) (fun x hx => by obtain ⟨e, _, rfl⟩ := List.mem_map.1 hx; rfl)
  simp only [List.length_map] at h1
  simp only [Ml.l, esL, Ml.hd, Ml.tl, Od.l, List.length_append, List.length_cons, List.length_nil, h1]
  omega

/-! ### Marks tell their numbers -/
theorem markL_inj {ns ms : List Int} (hn : IntsOk ns) (hm : IntsOk ms) (h : markL ns = markL ms) : ns = ms := by
  have go : ∀ {ns ms : List Int}, IntsOk ns → IntsOk ms → ns.length ≤ ms.length → markL ns = markL ms → ns = ms := by
    intro ns ms hn hm hl h
    have r1 := Rds.whole.2 ⟨hn, rfl⟩
    have r2 := Rds.whole.2 ⟨hm, rfl⟩
    rw [h] at r1
    have e1 := nx_of r1
    rw [← List.take_append_drop ns.length ms] at r2
    obtain ⟨b, s1, s2⟩ := Rds.split r2
    have e2 := nx_of s1
    rw [List.take_append_drop, List.length_take, Nat.min_eq_left hl] at e2
    rw [List.take_append_drop] at s2
    rw [e1] at e2
    injection e2 with q1 q2
    injection q2 with q2 _
    subst q2
    obtain ⟨hi, x, y, _, hx, hb⟩ := s2
    have h0 : (markL (ms.drop ns.length)).length = 0 := by omega
    have h2 := (markL_len hi).1
    have h3 : ms.drop ns.length = [] := List.length_eq_zero_iff.1 (by omega)
    rw [q1]
    conv => rhs; rw [← List.take_append_drop ns.length ms]
    rw [h3, List.append_nil]
  rcases Nat.le_total ns.length ms.length with hl | hl
  · exact go hn hm hl h
  · exact (go hm hn hl h.symm).symm
/-- The message that has these numbers. -/
def mlOf (h : List Int) (es : List (List Int)) (t : List Int) : Ml :=
  ⟨h.getD 0 0, h.getD 1 0, h.getD 2 0, h.getD 3 0, h.getD 4 0, h.getD 5 0, h.getD 6 0, h.getD 7 0, h.getD 8 0, es.map enOf, ⟨t.getD 0 0, t.getD 1 0, t.getD 2 0, t.getD 3 0, t.getD 4 0⟩, t.getD 5 0, t.getD 6 0, t.getD 7 0⟩
theorem mlOf_l (m : Ml) : mlOf m.hd (m.es.map En.l) m.tl = m := by
  obtain ⟨a, b, c, d, e, f, g, h, i, es, ⟨o1, o2, o3, o4, o5⟩, x, y, z⟩ := m
  simp only [mlOf, Ml.hd, Ml.tl, Od.l, List.cons_append, List.nil_append, List.getD_cons_zero, List.getD_cons_succ, List.map_map]
  congr 1
  conv => rhs; rw [← List.map_id es]
  exact List.map_congr_left fun r _ => rfl
theorem l_mlOf {h t : List Int} {es : List (List Int)} (hl : h.length = 9) (he : ∀ r ∈ es, r.length = 6) (ht : t.length = 8) :
    (mlOf h es t).l = h ++ (((es.length : Int) :: es.flatten) ++ t) := by
  match h, hl, t, ht with
  | [a, b, c, d, e, f, g, i, j], _, [o1, o2, o3, o4, o5, x, y, z], _ =>
    simp only [mlOf, Ml.l, Ml.hd, Ml.tl, Od.l, esL, map_enOf he, List.length_map, List.getD_cons_zero, List.getD_cons_succ, List.cons_append, List.nil_append]
theorem Ml.l_inj {m x : Ml} (h : m.l = x.l) : m = x := by
  have hl := congrArg List.length h
  rw [Ml.l_len, Ml.l_len] at hl
  have hes : m.es.length = x.es.length := by omega
  unfold Ml.l at h
  obtain ⟨h1, h2⟩ := List.append_inj h rfl
  have h3 : (esL m.es).length = (esL x.es).length := by
    have f1 := flatten_len (rows := m.es.map En.l) (k := 6) (fun y hy => by obtain ⟨e, _, rfl⟩ := List.mem_map.1 hy; rfl)
    have f2 := flatten_len (rows := x.es.map En.l) (k := 6) (fun y hy => by obtain ⟨e, _, rfl⟩ := List.mem_map.1 hy; rfl)
    simp only [List.length_map] at f1 f2
    simp only [esL, List.length_cons, f1, f2, hes]
  obtain ⟨h4, h5⟩ := List.append_inj h2 h3
  have h6 : m.es.map En.l = x.es.map En.l := by
    have h7 : (m.es.map En.l).flatten = (x.es.map En.l).flatten := by
      unfold esL at h4
      exact (List.cons.inj h4).2
    refine List.ext_getElem (by simpa using hes) fun i hi hj => ?_
    have q1 : ∀ r ∈ m.es.map En.l, r.length = 6 := fun y hy => by obtain ⟨e, _, rfl⟩ := List.mem_map.1 hy; rfl
    have q2 : ∀ r ∈ x.es.map En.l, r.length = 6 := fun y hy => by obtain ⟨e, _, rfl⟩ := List.mem_map.1 hy; rfl
    refine List.ext_getElem? fun j => ?_
    by_cases hj6 : j < 6
    · rw [← flat_at q1 hi hj6, ← flat_at q2 hj hj6, h7]
    · rw [List.getElem?_eq_none (by rw [q1 _ (List.getElem_mem hi)]; omega), List.getElem?_eq_none (by rw [q2 _ (List.getElem_mem hj)]; omega)]
  rw [← mlOf_l m, ← mlOf_l x, h1, h5, h6]
theorem Ml.enc_inj {m x : Ml} (hm : IntsOk m.l) (hx : IntsOk x.l) (h : m.enc = x.enc) : m = x := Ml.l_inj (markL_inj hm hx h)
theorem Ml.fits {n : Int} {m : Ml} (h : m.may n = true) : m.enc.length ≤ 5000 := by
  have hb := Ml.may_es h
  have := (markL_len (Ml.ints_l (Ml.may_ints h) (by omega))).2
  rw [Ml.l_len] at this
  unfold Ml.enc
  omega
/-- Read so far: all that stands ahead of a place; what the whole is then. -/
theorem Rds.ahead {l : List UInt8} {a : Nat} {ns ms : List Int} (h : Rds l 0 ns a) (hm : IntsOk ms) (he : markL ms = l) :
    ns.length ≤ ms.length ∧ ms.take ns.length = ns ∧ Rds l a (ms.drop ns.length) l.length := by
  subst he
  have r2 := Rds.whole.2 ⟨hm, rfl⟩
  have hle : ns.length ≤ ms.length := by
    rcases Nat.lt_or_ge ms.length ns.length with hlt | hge
    · exfalso
      have h' := h
      rw [← List.take_append_drop ms.length ns] at h'
      obtain ⟨b, s1, s2⟩ := Rds.split h'
      have e1 := nx_of s1
      rw [List.length_take, Nat.min_eq_left (by omega)] at e1
      rw [nx_of r2] at e1
      injection e1 with _ e1
      injection e1 with e1 _
      have hb := s2.bd.2
      obtain ⟨hi, x, y, hxy, hx, hb2⟩ := s2
      have h2 := (markL_len hi).1
      rw [List.length_drop] at h2
      have h3 := congrArg List.length hxy
      simp only [List.length_append] at h3
      omega
    · exact hge
  rw [← List.take_append_drop ns.length ms] at r2
  obtain ⟨b, s1, s2⟩ := Rds.split r2
  have e1 := nx_of s1
  rw [List.take_append_drop, List.length_take, Nat.min_eq_left hle, nx_of h] at e1
  injection e1 with q1 q2
  injection q2 with q2 _
  rw [List.take_append_drop] at s2
  subst q2
  exact ⟨hle, q1.symm, s2⟩
end Go.Proofs.YtkdnhfeamibmdaaDoor
