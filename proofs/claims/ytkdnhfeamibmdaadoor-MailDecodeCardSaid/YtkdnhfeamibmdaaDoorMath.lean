/-
  Plain mathematics of marks: groups of seven bits, read and written. No program in this text.
-/
import Derived.Lib.Zigzag
import Derived.Lib.VarintDec
import Derived.Lib.VarintBits
import Derived.Laws.BitsAllLaws
import Derived.IntWalk
namespace Go.Proofs.YtkdnhfeamibmdaaDoor
open Go.Lib (uvarint zigzag unzigzag uvarint_small uvarint_big)
open Go.RowKit (wrap64)

/-! ### The fold -/
theorem fold_bits {n : Int} (h0 : -9223372036854775808 ≤ n) (h1 : n ≤ 9223372036854775807) :
    bits .xor .u64 (IntKind.u64.wrap (IntKind.u64.wrap n * 2)) (IntKind.u64.wrap (n / 9223372036854775808)) = ((zigzag n : Nat) : Int) := by
  by_cases hn : 0 ≤ n
  · have e1 : IntKind.u64.wrap (IntKind.u64.wrap n * 2) = (((2 * n).toNat : Nat) : Int) := by rw [IntKind.wrap_u64, IntKind.wrap_u64]; omega
    have e2 : IntKind.u64.wrap (n / 9223372036854775808) = ((0 : Nat) : Int) := by rw [IntKind.wrap_u64]; omega
    rw [e1, e2, bits_xor_u64_nat _ _ (by omega) (by decide), Nat.xor_zero]
    unfold zigzag
    rw [if_pos hn]
  · have e1 : IntKind.u64.wrap (IntKind.u64.wrap n * 2) = (((2 * n + 18446744073709551616).toNat : Nat) : Int) := by rw [IntKind.wrap_u64, IntKind.wrap_u64]; omega
    have e2 : IntKind.u64.wrap (n / 9223372036854775808) = ((2 ^ 64 - 1 : Nat) : Int) := by
      rw [IntKind.wrap_u64, show n / 9223372036854775808 = -1 by omega]; decide
    rw [e1, e2, bits_xor_u64_nat _ _ (by omega) (by decide), Nat.xor_comm, Lib.xor_ones64 _ (by omega)]
    unfold zigzag
    rw [if_neg hn]
    omega
theorem unfold_bits {u : Nat} (h : u < 18446744073709551616) :
    wrap64 (bits .xor .u64 ((u : Int) / 2) (IntKind.u64.wrap (-bits .and .u64 (u : Int) 1))) = unzigzag u := by
  rw [Lib.u64_and1 _ (by omega) (by omega)]
  have e0 : ((u : Int) / 2) = ((u / 2 : Nat) : Int) := by omega
  unfold unzigzag
  by_cases hp : u % 2 = 0
  · have e1 : IntKind.u64.wrap (-((u : Int) % 2)) = ((0 : Nat) : Int) := by rw [IntKind.wrap_u64]; omega
    rw [e0, e1, bits_xor_u64_nat _ _ (by omega) (by decide), Nat.xor_zero, if_pos hp]
    exact IntWalk.wrap64_in _ ⟨by omega, by omega⟩
  · have e1 : IntKind.u64.wrap (-((u : Int) % 2)) = ((2 ^ 64 - 1 : Nat) : Int) := by
      rw [IntKind.wrap_u64, show ((u : Int) % 2) = 1 by omega]; decide
    rw [e0, e1, bits_xor_u64_nat _ _ (by omega) (by decide), Nat.xor_comm, Lib.xor_ones64 _ (by omega), if_neg hp]
    unfold wrap64
    omega
theorem zig_unzig (u : Nat) : zigzag (unzigzag u) = u := by unfold zigzag unzigzag; split <;> split <;> omega
theorem unzig_zig (n : Int) : unzigzag (zigzag n) = n := by unfold zigzag unzigzag; split <;> split <;> omega
theorem unzig_bd {u : Nat} (h : u < 18446744073709551616) : -9223372036854775808 ≤ unzigzag u ∧ unzigzag u ≤ 9223372036854775807 := by unfold unzigzag; split <;> omega

/-! ### Groups -/
def lead : List UInt8 → Nat
  | [] => 0
  | c :: r => if 128 ≤ c.toNat then lead r + 1 else 0
def val : List UInt8 → Nat
  | [] => 0
  | c :: r => c.toNat % 128 + 128 * val r
theorem lead_le : ∀ l : List UInt8, lead l ≤ l.length
  | [] => by simp [lead]
  | c :: r => by have := lead_le r; simp only [lead]; split <;> simp <;> omega
theorem lead_step : ∀ (l : List UInt8) (i : Nat) (h : i < l.length), i ≤ lead l → (128 ≤ l[i].toNat ↔ i < lead l)
  | c :: r, 0, _, _ => by simp only [lead, List.getElem_cons_zero]; split <;> simp_all
  | c :: r, i + 1, h, hi => by
    simp only [lead] at hi ⊢
    split at hi
    · rename_i hc
      have := lead_step r i (by simpa using h) (by omega)
      simp only [List.getElem_cons_succ, this, if_pos hc]; omega
    · omega
theorem val_append : ∀ l m : List UInt8, val (l ++ m) = val l + 128 ^ l.length * val m
  | [], m => by simp [val]
  | c :: r, m => by
    simp only [List.cons_append, val, val_append r m, List.length_cons, Nat.pow_succ, Nat.mul_add]
    rw [Nat.mul_comm (128 ^ r.length) 128, Nat.mul_assoc]; omega
theorem val_lt : ∀ l : List UInt8, val l < 128 ^ l.length
  | [] => by simp [val]
  | c :: r => by have := val_lt r; simp only [val, List.length_cons, Nat.pow_succ]; omega
theorem val_snoc (l : List UInt8) (i : Nat) (h : i < l.length) : val (l.take (i + 1)) = val (l.take i) + 128 ^ i * (l[i].toNat % 128) := by
  rw [List.take_succ_eq_append_getElem h, val_append, List.length_take, Nat.min_eq_left (by omega)]
  simp [val]
theorem val_uvarint (f : Nat) : val (uvarint f) = f := by
  induction f using Nat.strongRecOn with
  | ind f ih =>
    by_cases h : f < 128
    · rw [uvarint_small h]; simp [val, Nat.mod_eq_of_lt (show f < 256 by omega), Nat.mod_eq_of_lt h]
    · rw [uvarint_big (by omega)]
      have := ih (f / 128) (by omega)
      simp only [val, this]
      have : (f % 128 + 128).toUInt8.toNat = f % 128 + 128 := by simp; omega
      rw [this]; omega
theorem uvarint_inj {a b : Nat} (h : uvarint a = uvarint b) : a = b := by rw [← val_uvarint a, h, val_uvarint]
theorem uvarint_ge : ∀ (k f : Nat), k + 1 < (uvarint f).length → 128 ^ (k + 1) ≤ f
  | 0, f, h => by
    by_cases hf : f < 128
    · rw [uvarint_small hf] at h; simp at h
    · simpa using hf
  | k + 1, f, h => by
    by_cases hf : f < 128
    · rw [uvarint_small hf] at h; simp at h
    · rw [uvarint_big (by omega), List.length_cons] at h
      have := uvarint_ge k (f / 128) (by omega)
      rw [Nat.pow_succ]
      have := Nat.mul_le_mul_right 128 this
      omega
theorem lead_uvarint (f : Nat) (m : List UInt8) : lead (uvarint f ++ m) + 1 = (uvarint f).length := by
  induction f using Nat.strongRecOn with
  | ind f ih =>
    by_cases h : f < 128
    · rw [uvarint_small h]; simp [lead]; omega
    · rw [uvarint_big (by omega)]
      have := ih (f / 128) (by omega)
      have e : (f % 128 + 128).toUInt8.toNat = f % 128 + 128 := by simp; omega
      simp only [List.cons_append, lead, e, List.length_cons]
      rw [if_pos (by omega), this]
/-- A row of groups that goes on but at its end, which is no idle zero, is the mark of its value. -/
theorem uvarint_val : ∀ (l : List UInt8) (k : Nat) (h : k < l.length), lead l = k → (l[k].toNat ≠ 0 ∨ k = 0) → uvarint (val (l.take (k + 1))) = l.take (k + 1)
  | c :: r, 0, h, hl, _ => by
    have hc : c.toNat < 128 := by
      by_cases hc : 128 ≤ c.toNat
      · simp [lead, hc] at hl
      · omega
    simp [val, Nat.mod_eq_of_lt hc, uvarint_small hc]
  | c :: r, k + 1, h, hl, hz => by
    have hc : 128 ≤ c.toNat := by
      by_cases hc : 128 ≤ c.toNat
      · exact hc
      · simp [lead, hc] at hl
    have hl' : lead r = k := by simpa [lead, hc] using hl
    have hz' : r[k]'(by simpa using h) ≠ 0 := by
      intro e; rcases hz with h1 | h1
      · apply h1; simp [e]
      · omega
    have hk : k < r.length := by simpa using h
    have ih := uvarint_val r k hk hl' (.inl (by intro e; exact hz' (UInt8.toNat_inj.1 (by simpa using e))))
    have hpos : 1 ≤ val (r.take (k + 1)) := by
      rw [val_snoc r k hk]
      have h8 : r[k].toNat < 128 := by
        have := lead_step r k hk (by omega)
        omega
      have h9 : r[k].toNat ≠ 0 := by intro e; exact hz' (UInt8.toNat_inj.1 (by simpa using e))
      rw [Nat.mod_eq_of_lt h8]
      have : 1 ≤ 128 ^ k := by simpa using Nat.pow_le_pow_right (show 0 < 128 by decide) (Nat.zero_le k)
      have := Nat.mul_le_mul this (show 1 ≤ r[k].toNat by omega)
      omega
    have hc2 := c.toNat_lt
    simp only [List.take_succ_cons, val]
    rw [uvarint_big (by omega)]
    congr 1
    · apply UInt8.toNat_inj.1
      have e : ((c.toNat % 128 + 128 * val (List.take (k + 1) r)) % 128 + 128) = c.toNat := by omega
      rw [e]; simp
    · have e : (c.toNat % 128 + 128 * val (List.take (k + 1) r)) / 128 = val (List.take (k + 1) r) := by omega
      rw [e, ih]

theorem getD_at {l : List UInt8} {i : Nat} (h : i < l.length) : l.getD i 0 = l[i] := by simp [List.getD, h]
/-- What is read of the groups with which a text begins: the value, and how many there are. -/
def dec (l : List UInt8) : Option (Nat × Nat) :=
  if lead l < l.length ∧ lead l ≤ 9 ∧ ((l.getD (lead l) 0).toNat ≠ 0 ∨ lead l = 0) ∧ ((l.getD (lead l) 0).toNat ≤ 1 ∨ lead l < 9) then some (val (l.take (lead l + 1)), lead l + 1) else none
/-- Just the beginnings that are marks are read. -/
theorem dec_iff {l : List UInt8} {f k : Nat} : dec l = some (f, k) ↔ (f < 18446744073709551616 ∧ uvarint f = l.take k ∧ k = (uvarint f).length) := by
  constructor
  · intro h
    unfold dec at h
    split at h
    · rename_i hc
      obtain ⟨h1, h2, h3, h4⟩ := hc
      simp only [Option.some.injEq, Prod.mk.injEq] at h
      obtain ⟨rfl, rfl⟩ := h
      rw [getD_at h1] at h3 h4
      have hu := uvarint_val l (lead l) h1 rfl h3
      have h8 : l[lead l].toNat < 128 := by
        have := lead_step l (lead l) h1 (by omega)
        omega
      refine ⟨?_, hu, by rw [hu, List.length_take]; omega⟩
      rw [val_snoc l _ h1, Nat.mod_eq_of_lt h8]
      have hv := val_lt (l.take (lead l))
      rw [List.length_take, Nat.min_eq_left (by omega)] at hv
      generalize hk : lead l = k at *
      rcases h4 with h4 | h4
      · have hp : 128 ^ k ≤ 128 ^ 9 := Nat.pow_le_pow_right (by decide) h2
        have := Nat.mul_le_mul_left (128 ^ k) h4
        have e9 : 128 ^ 9 = 9223372036854775808 := by decide
        omega
      · have hp : 128 ^ (k + 1) ≤ 128 ^ 9 := Nat.pow_le_pow_right (by decide) h4
        rw [Nat.pow_succ] at hp
        have := Nat.mul_le_mul_left (128 ^ k) (show l[k].toNat ≤ 127 by omega)
        have e9 : 128 ^ 9 = 9223372036854775808 := by decide
        omega
    · cases h
  · rintro ⟨hf, hu, hk⟩
    have hl : l = uvarint f ++ l.drop k := by rw [hu, List.take_append_drop]
    have hlead : lead l + 1 = k := by rw [hk]; conv => lhs; rw [hl]
                                      exact lead_uvarint f _
    have hlen : k ≤ l.length := by
      have := congrArg List.length hu
      rw [List.length_take] at this; omega
    have h10 := Lib.uvarint_length64 hf
    have h1 : lead l < l.length := by omega
    have hval : val (l.take (lead l + 1)) = f := by rw [hlead, ← hu, val_uvarint]
    have h8 : l[lead l].toNat < 128 := by
      have := lead_step l (lead l) h1 (by omega)
      omega
    unfold dec
    rw [if_pos, hval, hlead]
    refine ⟨h1, by omega, ?_, ?_⟩
    · rw [getD_at h1]
      by_cases h0 : lead l = 0
      · exact .inr h0
      · refine .inl fun hz => ?_
        obtain ⟨j, hj⟩ : ∃ j, lead l = j + 1 := ⟨lead l - 1, by omega⟩
        have hge := uvarint_ge j f (by omega)
        rw [val_snoc l _ h1, hz] at hval
        have hv := val_lt (l.take (lead l))
        rw [List.length_take, Nat.min_eq_left (by omega)] at hv
        rw [hj] at hv hval
        simp at hval; omega
    · rw [getD_at h1]
      by_cases h9 : lead l < 9
      · exact .inr h9
      · refine .inl ?_
        have h9 : lead l = 9 := by omega
        rw [val_snoc l _ h1, Nat.mod_eq_of_lt h8] at hval
        generalize l[lead l].toNat = c at *
        rw [h9] at hval
        have e9 : 128 ^ 9 = 9223372036854775808 := by decide
        rw [e9] at hval
        omega
theorem dec_mark {f : Nat} (hf : f < 18446744073709551616) (m : List UInt8) : dec (uvarint f ++ m) = some (f, (uvarint f).length) :=
  dec_iff.2 ⟨hf, by simp, rfl⟩
theorem dec_pos {l : List UInt8} {f k : Nat} (h : dec l = some (f, k)) : 1 ≤ k ∧ k ≤ l.length ∧ k ≤ 10 ∧ f < 18446744073709551616 := by
  obtain ⟨h1, h2, h3⟩ := dec_iff.1 h
  have := Lib.uvarint_pos f
  have := Lib.uvarint_length64 h1
  have hl := congrArg List.length h2
  rw [List.length_take] at hl
  omega
end Go.Proofs.YtkdnhfeamibmdaaDoor
