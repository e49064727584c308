/-
  Plain mathematics of frames: the frame of a payload, the frame that stands at a place, the frames that stand one behind the other; cut off, and spoilt. No program in this text.
-/
import Derived.Test.YtcbeommmacnkgaaDoorRGet
import Derived.Test.YtcbeommmacnkgaaDoorCMore1
namespace Go.Proofs.YtcbeommmacnkgaaDoor
open Go.RowKit
open Go.Lib (uvarint zigzag unzigzag uvarint_small uvarint_big)
open Crc

/-! ### Marks that stand at a place -/
theorem mark_bd {n : Int} (h0 : -9223372036854775808 ≤ n) (h1 : n ≤ 9223372036854775807) : 1 ≤ (mark n).length ∧ (mark n).length ≤ 10 :=
  ⟨Lib.uvarint_pos _, Lib.uvarint_length64 (Lib.zigzag_lt h0 h1)⟩
theorem got_iff {l : List UInt8} {a n : Int} {k : Nat} : got l a = some (n, k) ↔
    (-9223372036854775808 ≤ n ∧ n ≤ 9223372036854775807) ∧ ∃ x y, l = x ++ (mark n ++ y) ∧ a = (x.length : Int) ∧ k = x.length + (mark n).length := by
  constructor
  · intro h
    unfold got at h
    split at h
    · rename_i hc
      rcases hd : dec (l.drop a.toNat) with _ | ⟨f, m⟩
      · rw [hd] at h; cases h
      · rw [hd] at h
        simp only [Option.map_some, Option.some.injEq, Prod.mk.injEq] at h
        obtain ⟨rfl, rfl⟩ := h
        obtain ⟨h1, h2, h3⟩ := dec_iff.1 hd
        have hm : mark (unzigzag f) = uvarint f := by unfold mark; rw [zig_unzig]
        refine ⟨unzig_bd h1, l.take a.toNat, (l.drop a.toNat).drop m, ?_, ?_, ?_⟩
        · rw [hm, h2, List.take_append_drop, List.take_append_drop]
        · rw [List.length_take, Nat.min_eq_left (by omega)]; omega
        · rw [hm, List.length_take, Nat.min_eq_left (by omega), h3]
    · cases h
  · rintro ⟨⟨h0, h1⟩, x, y, rfl, rfl, rfl⟩
    rw [got_nat (by simp), List.drop_left, show mark n = uvarint (zigzag n) from rfl, dec_mark (Lib.zigzag_lt h0 h1)]
    simp [unzig_zig]

/-! ### Frames -/
def le4 (n : Nat) : List UInt8 := [UInt8.ofNat n, UInt8.ofNat (n / 256), UInt8.ofNat (n / 65536), UInt8.ofNat (n / 16777216)]
theorem le4_len (n : Nat) : (le4 n).length = 4 := rfl
theorem le4_inj {a b : Nat} (ha : a < 4294967296) (hb : b < 4294967296) (h : le4 a = le4 b) : a = b := by
  simp only [le4, List.cons.injEq, ← UInt8.toNat_inj, UInt8.toNat_ofNat'] at h
  omega
def checkNo (m p : List UInt8) : List UInt8 := le4 (more 0 (m ++ p))
theorem checkNo_len (m p : List UInt8) : (checkNo m p).length = 4 := rfl
def frameOf (p : List UInt8) : List UInt8 := mark (p.length : Int) ++ (checkNo (mark (p.length : Int)) p ++ p)
theorem frame_len (p : List UInt8) : (frameOf p).length = (mark (p.length : Int)).length + 4 + p.length := by
  unfold frameOf
  simp only [List.length_append, checkNo_len]; omega
/-- The length that a mark at a place tells, if a frame may stand there, and the place behind the mark. -/
def bound (l : List UInt8) (a : Int) : Option (Nat × Nat) :=
  match got l a with
  | none => none
  | some (n, k) => if 0 ≤ n ∧ n ≤ 8192 ∧ (k : Int) + 4 + n ≤ (l.length : Int) then some (n.toNat, k) else none
theorem bound_iff {l : List UInt8} {a : Int} {c k : Nat} : bound l a = some (c, k) ↔ got l a = some ((c : Int), k) ∧ c ≤ 8192 ∧ k + 4 + c ≤ l.length := by
  unfold bound
  rcases hg : got l a with _ | ⟨n, m⟩
  · simp
  · simp only [Option.some.injEq, Prod.mk.injEq]
    constructor
    · intro h
      split at h
      · rename_i hc
        simp only [Option.some.injEq, Prod.mk.injEq] at h
        obtain ⟨rfl, rfl⟩ := h
        omega
      · cases h
    · rintro ⟨⟨rfl, rfl⟩, h1, h2⟩
      rw [if_pos (by omega)]
      simp
/-- The payload whose frame stands at a place, and the place behind it. -/
def nextOf (l : List UInt8) (a : Int) : Option (List UInt8 × Nat) :=
  match bound l a with
  | none => none
  | some (c, k) => if (l.drop k).take 4 = checkNo (mark (c : Int)) ((l.drop (k + 4)).take c) then some ((l.drop (k + 4)).take c, k + 4 + c) else none
theorem next_iff {l : List UInt8} {a : Int} {p : List UInt8} {q : Nat} : nextOf l a = some (p, q) ↔
    p.length ≤ 8192 ∧ ∃ x y, l = x ++ (frameOf p ++ y) ∧ a = (x.length : Int) ∧ q = x.length + (frameOf p).length := by
  constructor
  · intro h
    unfold nextOf at h
    rcases hb : bound l a with _ | ⟨c, k⟩
    · rw [hb] at h; cases h
    · rw [hb] at h
      simp only at h
      split at h
      · rename_i hc
        obtain ⟨hg, h1, h2⟩ := bound_iff.1 hb
        obtain ⟨_, x, y, rfl, rfl, rfl⟩ := got_iff.1 hg
        simp only [Option.some.injEq, Prod.mk.injEq] at h
        simp only [List.length_append] at h2
        have d0 : (x ++ (mark (c : Int) ++ y)).drop (x.length + (mark (c : Int)).length) = y := by
          rw [← List.append_assoc, ← List.length_append, List.drop_left]
        have d4 : (x ++ (mark (c : Int) ++ y)).drop (x.length + (mark (c : Int)).length + 4) = y.drop 4 := by
          rw [← List.drop_drop, d0]
        rw [d0, d4] at hc
        rw [d4] at h
        obtain ⟨hp, hq⟩ := h
        have hlen : ((y.drop 4).take c).length = c := by rw [List.length_take, List.length_drop]; omega
        rw [hp] at hlen hc
        refine ⟨by omega, x, (y.drop 4).drop c, ?_, rfl, ?_⟩
        · unfold frameOf
          rw [hlen, ← hc, List.append_assoc, List.append_assoc]
          conv => lhs; rw [← List.take_append_drop 4 y, ← List.take_append_drop c (y.drop 4), hp]
        · rw [frame_len, hlen]; omega
      · cases h
  · rintro ⟨h1, x, y, rfl, rfl, rfl⟩
    have hl : x ++ (frameOf p ++ y) = x ++ (mark (p.length : Int) ++ (checkNo (mark (p.length : Int)) p ++ (p ++ y))) := by
      unfold frameOf; simp only [List.append_assoc]
    have hg : got (x ++ (frameOf p ++ y)) (x.length : Int) = some ((p.length : Int), x.length + (mark (p.length : Int)).length) :=
      got_iff.2 ⟨⟨by omega, by omega⟩, x, _, hl, rfl, rfl⟩
    have hb := bound_iff.2 ⟨hg, h1, by simp only [List.length_append, frame_len]; omega⟩
    have d0 : (x ++ (frameOf p ++ y)).drop (x.length + (mark (p.length : Int)).length) = checkNo (mark (p.length : Int)) p ++ (p ++ y) := by
      rw [hl, ← List.append_assoc, ← List.length_append, List.drop_left]
    have d4 : (x ++ (frameOf p ++ y)).drop (x.length + (mark (p.length : Int)).length + 4) = p ++ y := by
      rw [← List.drop_drop, d0, ← checkNo_len (mark (p.length : Int)) p, List.drop_left]
    have t4 : (checkNo (mark (p.length : Int)) p ++ (p ++ y)).take 4 = checkNo (mark (p.length : Int)) p := by
      rw [← checkNo_len (mark (p.length : Int)) p, List.take_left]
    unfold nextOf
    rw [hb]
    simp only
    rw [d0, d4, t4, List.take_left, if_pos rfl, frame_len]
    simp only [Option.some.injEq, Prod.mk.injEq, true_and]
    omega
theorem next_bd {l : List UInt8} {a : Int} {p : List UInt8} {q : Nat} (h : nextOf l a = some (p, q)) : p.length ≤ 8192 ∧ 0 ≤ a ∧ a + 5 + p.length ≤ q ∧ q ≤ l.length := by
  obtain ⟨h1, x, y, rfl, rfl, rfl⟩ := next_iff.1 h
  have hm := mark_bd (n := (p.length : Int)) (by omega) (by omega)
  simp only [List.length_append, frame_len]
  omega
theorem next_at {x p : List UInt8} (hp : p.length ≤ 8192) (y : List UInt8) : nextOf (x ++ (frameOf p ++ y)) (x.length : Int) = some (p, x.length + (frameOf p).length) :=
  next_iff.2 ⟨hp, x, y, rfl, rfl, rfl⟩
/-- At most one frame stands at a place. -/
theorem frame_one {p q y z : List UInt8} (hp : p.length ≤ 8192) (hq : q.length ≤ 8192) (h : frameOf p ++ y = frameOf q ++ z) : p = q ∧ y = z := by
  have h1 := next_at (x := []) hp y
  have h2 := next_at (x := []) hq z
  simp only [List.nil_append] at h1 h2
  rw [h, h2] at h1
  simp only [Option.some.injEq, Prod.mk.injEq] at h1
  obtain ⟨rfl, _⟩ := h1
  exact ⟨rfl, List.append_cancel_left h⟩
theorem next_none {x y : List UInt8} (h : nextOf y 0 = none) : nextOf (x ++ y) (x.length : Int) = none := by
  rcases hn : nextOf (x ++ y) (x.length : Int) with _ | ⟨p, q⟩
  · rfl
  · exfalso
    obtain ⟨h1, x', y', h2, h3, _⟩ := next_iff.1 hn
    obtain ⟨h4, h5⟩ := List.append_inj h2 (by omega)
    rw [h5] at h
    have := next_at (x := []) h1 y'
    simp only [List.nil_append, List.length_nil] at this
    rw [show ((0 : Nat) : Int) = 0 from rfl, h] at this
    cases this
theorem next_some {x y p : List UInt8} {q : Nat} (h : nextOf (x ++ y) (x.length : Int) = some (p, q)) : p.length ≤ 8192 ∧ q = x.length + (frameOf p).length ∧ ∃ z, y = frameOf p ++ z := by
  obtain ⟨h1, x', y', h2, h3, h4⟩ := next_iff.1 h
  obtain ⟨rfl, rfl⟩ := List.append_inj h2 (by omega)
  exact ⟨h1, h4, y', rfl⟩
theorem next_nil : nextOf [] 0 = none := by
  rcases hn : nextOf [] 0 with _ | ⟨p, q⟩
  · rfl
  · have := next_bd hn
    simp at this
    omega

/-! ### One behind the other -/
def flat (ps : List (List UInt8)) : List UInt8 := ps.flatMap frameOf
def Small (ps : List (List UInt8)) : Prop := ∀ p ∈ ps, p.length ≤ 8192
theorem flat_nil : flat [] = [] := rfl
theorem flat_cons (p : List UInt8) (ps : List (List UInt8)) : flat (p :: ps) = frameOf p ++ flat ps := by simp [flat]
theorem flat_append (ps qs : List (List UInt8)) : flat (ps ++ qs) = flat ps ++ flat qs := by simp [flat]
theorem flat_snoc (ps : List (List UInt8)) (p : List UInt8) : flat (ps ++ [p]) = flat ps ++ frameOf p := by simp [flat]
theorem flat_split (ps : List (List UInt8)) (k : Nat) : flat ps = flat (ps.take k) ++ flat (ps.drop k) := by rw [← flat_append, List.take_append_drop]
theorem Small.take {ps : List (List UInt8)} (h : Small ps) (k : Nat) : Small (ps.take k) := fun p hp => h p (List.mem_of_mem_take hp)
theorem Small.snoc {ps : List (List UInt8)} (h : Small ps) {p : List UInt8} (hp : p.length ≤ 8192) : Small (ps ++ [p]) := by
  intro q hq
  rcases List.mem_append.1 hq with hq | hq
  · exact h q hq
  · rw [List.mem_singleton.1 hq]; exact hp
/-- These payloads stand one behind the other from the beginning on, and behind them none. -/
def IsWhole (l : List UInt8) (ps : List (List UInt8)) (e : Nat) : Prop := Small ps ∧ e = (flat ps).length ∧ ∃ y, l = flat ps ++ y ∧ nextOf y 0 = none
theorem whole_one {l : List UInt8} : ∀ {ps qs : List (List UInt8)} {e f : Nat}, IsWhole l ps e → IsWhole l qs f → ps = qs ∧ e = f := by
  suffices H : ∀ (ps qs : List (List UInt8)) (y z : List UInt8), Small ps → Small qs → flat ps ++ y = flat qs ++ z → nextOf y 0 = none → nextOf z 0 = none → ps = qs by
    rintro ps qs e f ⟨h1, rfl, y, rfl, h2⟩ ⟨h3, rfl, z, h4, h5⟩
    obtain rfl := H ps qs y z h1 h3 h4 h2 h5
    exact ⟨rfl, rfl⟩
  have none_not : ∀ (p y : List UInt8), p.length ≤ 8192 → nextOf (frameOf p ++ y) 0 ≠ none := by
    intro p y hp hn
    have := next_at (x := []) hp y
    simp only [List.nil_append, List.length_nil] at this
    rw [show ((0 : Nat) : Int) = 0 from rfl, hn] at this
    cases this
  intro ps
  induction ps with
  | nil =>
    intro qs y z _ hq h hy hz
    cases qs with
    | nil => rfl
    | cons q qs =>
      exfalso
      rw [flat_nil, List.nil_append, flat_cons, List.append_assoc] at h
      rw [h] at hy
      exact none_not _ _ (hq q (by simp)) hy
  | cons p ps ih =>
    intro qs y z hp hq h hy hz
    cases qs with
    | nil =>
      exfalso
      rw [flat_nil, List.nil_append, flat_cons, List.append_assoc] at h
      rw [← h] at hz
      exact none_not _ _ (hp p (by simp)) hz
    | cons q qs =>
      rw [flat_cons, flat_cons, List.append_assoc, List.append_assoc] at h
      obtain ⟨rfl, h'⟩ := frame_one (hp p (by simp)) (hq q (by simp)) h
      rw [ih qs y z (fun r hr => hp r (by simp [hr])) (fun r hr => hq r (by simp [hr])) h' hy hz]
theorem whole_all {ps : List (List UInt8)} (h : Small ps) : IsWhole (flat ps) ps (flat ps).length := ⟨h, rfl, [], by simp, next_nil⟩
/-- A frame that is cut off is none. -/
theorem next_cut {p : List UInt8} (hp : p.length ≤ 8192) {j : Nat} (hj : j < (frameOf p).length) : nextOf ((frameOf p).take j) 0 = none := by
  rcases hn : nextOf ((frameOf p).take j) 0 with _ | ⟨q, e⟩
  · rfl
  · exfalso
    have hn' : nextOf ([] ++ (frameOf p).take j) ((([] : List UInt8).length : Nat) : Int) = some (q, e) := hn
    obtain ⟨hq, _, z, hz⟩ := next_some hn'
    have hf : frameOf p ++ [] = frameOf q ++ (z ++ (frameOf p).drop j) := by
      rw [List.append_nil, ← List.append_assoc, ← hz, List.take_append_drop]
    obtain ⟨rfl, h2⟩ := frame_one hp hq hf
    have := congrArg List.length h2
    simp at this
    omega
theorem whole_cut {ps : List (List UInt8)} (h : Small ps) {cut m : Nat} (h1 : (flat (ps.take m)).length ≤ cut) (h2 : ps.length ≤ m ∨ cut < (flat (ps.take (m + 1))).length) :
    IsWhole ((flat ps).take cut) (ps.take m) (flat (ps.take m)).length := by
  refine ⟨h.take m, rfl, (flat (ps.drop m)).take (cut - (flat (ps.take m)).length), ?_, ?_⟩
  · conv => lhs; rw [flat_split ps m]
    rw [List.take_append, List.take_of_length_le h1]
  · rcases Nat.lt_or_ge m ps.length with hm | hm
    · have hd : ps.drop m = ps[m] :: ps.drop (m + 1) := List.drop_eq_getElem_cons hm
      have ht : ps.take (m + 1) = ps.take m ++ [ps[m]] := List.take_succ_eq_append_getElem hm
      rw [ht, flat_snoc, List.length_append] at h2
      rw [hd, flat_cons, List.take_append_of_le_length (by omega)]
      exact next_cut (h _ (List.getElem_mem hm)) (by omega)
    · rw [List.drop_of_length_le hm, flat_nil, List.take_nil]
      exact next_nil

/-! ### Spoilt -/
theorem next_spoilt {p y : List UInt8} (hp : p.length ≤ 8192) {i : Nat} (hi : i < p.length + 4) {v : UInt8} (hv : v ≠ 0) {z : List UInt8}
    (hz : z = (checkNo (mark (p.length : Int)) p ++ p).set i (((checkNo (mark (p.length : Int)) p ++ p).getD i 0) ^^^ v)) : nextOf (mark (p.length : Int) ++ (z ++ y)) 0 = none := by
  generalize hM : mark (p.length : Int) = M at *
  generalize hC : checkNo M p = C at *
  have hCl : C.length = 4 := by rw [← hC]; rfl
  have hne : ∀ c : UInt8, c ^^^ v ≠ c := by
    intro c h
    apply hv
    have := congrArg (c ^^^ ·) h
    simpa [← UInt8.xor_assoc] using this
  have hg : got (M ++ (z ++ y)) 0 = some ((p.length : Int), M.length) := by
    refine got_iff.2 ⟨⟨by omega, by omega⟩, [], z ++ y, by rw [hM]; rfl, rfl, by rw [hM]; simp⟩
  have hzl : z.length = 4 + p.length := by rw [hz, List.length_set, List.length_append, hCl]
  have hb := bound_iff.2 ⟨hg, hp, by simp only [List.length_append]; omega⟩
  unfold nextOf
  rw [hb]
  simp only
  rw [if_neg]
  rw [hM, ← List.drop_drop, List.drop_left]
  intro h
  by_cases h4 : i < 4
  · have e : z = C.set i (C.getD i 0 ^^^ v) ++ p := by
      rw [hz, List.set_append_left _ _ (by omega)]
      simp [List.getD, List.getElem?_append_left (show i < C.length by omega)]
    have hsl : (C.set i (C.getD i 0 ^^^ v)).length = 4 := by rw [List.length_set, hCl]
    rw [e, List.append_assoc, show (4 : Nat) = (C.set i (C.getD i 0 ^^^ v)).length from hsl.symm, List.take_left, List.drop_left, List.take_left, hC] at h
    have h' := congrArg (fun l => List.getD l i 0) h
    rw [List.getD_eq_getElem?_getD, List.getElem?_set_self (by omega)] at h'
    exact hne _ h'
  · obtain ⟨j, rfl⟩ : ∃ j, i = 4 + j := ⟨i - 4, by omega⟩
    have hj : j < p.length := by omega
    have e : z = C ++ p.set j (p[j] ^^^ v) := by
      rw [hz, List.set_append_right _ _ (by omega)]
      simp [List.getD, hCl, hj]
    rw [e, List.append_assoc, show (4 : Nat) = C.length from hCl.symm, List.take_left, List.drop_left, show p.length = (p.set j (p[j] ^^^ v)).length by simp, List.take_left] at h
    rw [← hC] at h
    have h1 := le4_inj (more_lt _ _) (more_lt _ _) h
    have hlt : M.length + j < (M ++ p).length := by rw [List.length_append]; omega
    have hset : M ++ p.set j (p[j] ^^^ v) = (M ++ p).set (M.length + j) ((M ++ p)[M.length + j] ^^^ v) := by
      rw [List.set_append_right _ _ (by omega)]
      simp
    have hn := num_set (M ++ p) (M.length + j) hlt v
    rw [← hset] at hn
    have := (burst (n := 0) (a := M ++ p.set j (p[j] ^^^ v)) (b := M ++ p) (v := v.toNat) (k := 8 * (M.length + j)) (by simp) (byte_lt v) (by simp; omega) hn).1 h1.symm
    exact hv (UInt8.toNat_inj.1 (by simpa using this))
theorem whole_spoilt {ps : List (List UInt8)} (h : Small ps) {k : Nat} {y : List UInt8} (hn : nextOf y 0 = none) : IsWhole (flat (ps.take k) ++ y) (ps.take k) (flat (ps.take k)).length :=
  ⟨h.take k, rfl, y, rfl, hn⟩
end Go.Proofs.YtcbeommmacnkgaaDoor
