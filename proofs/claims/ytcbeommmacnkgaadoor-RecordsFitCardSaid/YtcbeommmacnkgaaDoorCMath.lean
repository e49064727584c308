/-
  Plain mathematics of check numbers: a register by a bit, by a byte, by a text, forward and back. No program in this text.
-/
import Derived.Laws.BitsAllLaws
import Derived.IntWalk
namespace Go.Proofs.YtcbeommmacnkgaaDoor.Crc
theorem xor_can (a b : Nat) : a ^^^ b ^^^ b = a := by rw [Nat.xor_assoc, Nat.xor_self, Nat.xor_zero]
theorem xor_swap (a b c d : Nat) : (a ^^^ b) ^^^ (c ^^^ d) = (a ^^^ c) ^^^ (b ^^^ d) := by
  rw [Nat.xor_assoc, Nat.xor_assoc, ← Nat.xor_assoc b c d, Nat.xor_comm b c, Nat.xor_assoc c b d]
theorem xor_nil {a b : Nat} (h : a ^^^ b = 0) : a = b := by
  have := xor_can a b
  rw [h, Nat.zero_xor] at this
  exact this.symm
theorem xor_nil_iff (a b : Nat) : a ^^^ b = 0 ↔ a = b := ⟨xor_nil, fun h => by rw [h, Nat.xor_self]⟩

/-! ### By a bit -/
def stp (r : Nat) : Nat := if r % 2 = 1 then r / 2 ^^^ 2197175160 else r / 2
theorem stp_zero : stp 0 = 0 := rfl
theorem stp_xor (a b : Nat) : stp (a ^^^ b) = stp a ^^^ stp b := by
  have h := @Nat.xor_mod_two_eq_one a b
  unfold stp
  rw [Nat.xor_div_two]
  by_cases ha : a % 2 = 1 <;> by_cases hb : b % 2 = 1
  · rw [if_neg (by rw [h]; simp [ha, hb]), if_pos ha, if_pos hb, xor_swap, Nat.xor_self, Nat.xor_zero]
  · rw [if_pos (by rw [h]; simp [ha, hb]), if_pos ha, if_neg hb, Nat.xor_assoc, Nat.xor_assoc, Nat.xor_comm (b / 2)]
  · rw [if_pos (by rw [h]; simp [ha, hb]), if_neg ha, if_pos hb, Nat.xor_assoc]
  · rw [if_neg (by rw [h]; simp [ha, hb]), if_neg ha, if_neg hb]
theorem stp_two (x : Nat) : stp (2 * x) = x := by unfold stp; rw [if_neg (by omega)]; omega
theorem xor_lt {a b : Nat} (ha : a < 4294967296) (hb : b < 4294967296) : a ^^^ b < 4294967296 := Nat.xor_lt_two_pow (n := 32) ha hb
theorem stp_lt {r : Nat} (h : r < 4294967296) : stp r < 4294967296 := by
  unfold stp
  split
  · exact xor_lt (by omega) (by decide)
  · omega
def bk (r : Nat) : Nat := if 2147483648 ≤ r then 2 * (r ^^^ 2197175160) + 1 else 2 * r
theorem top_on {x : Nat} (h : x < 2147483648) : 2147483648 ≤ x ^^^ 2197175160 := by
  refine Nat.ge_two_pow_of_testBit (i := 31) ?_
  rw [Nat.testBit_xor, Nat.testBit_lt_two_pow (i := 31) h]
  decide
theorem top_off {x : Nat} (h0 : 2147483648 ≤ x) (h : x < 4294967296) : x ^^^ 2197175160 < 2147483648 := by
  have e : x = 2147483648 ^^^ (x - 2147483648) := by
    have h1 := Nat.two_pow_add_eq_or_of_lt (i := 31) (b := x - 2147483648) (by omega) 1
    apply Nat.eq_of_testBit_eq
    intro i
    rw [Nat.testBit_xor]
    have h2 : x = 2147483648 ||| (x - 2147483648) := by
      have : 2147483648 + (x - 2147483648) = x := by omega
      simpa [this] using h1
    conv => lhs; rw [h2]
    rw [Nat.testBit_or]
    by_cases hi : i = 31
    · subst hi
      rw [Nat.testBit_lt_two_pow (x := x - 2147483648) (i := 31) (by omega)]
      decide
    · have : Nat.testBit 2147483648 i = false := by
        rw [show 2147483648 = 2 ^ 31 from rfl, Nat.testBit_two_pow]
        simp; omega
      rw [this]; simp
  rw [e, Nat.xor_comm 2147483648, Nat.xor_assoc, show 2147483648 ^^^ 2197175160 = 49691512 from by decide]
  exact Nat.xor_lt_two_pow (n := 31) (by omega) (by decide)
theorem bk_lt {r : Nat} (h : r < 4294967296) : bk r < 4294967296 := by
  unfold bk
  split
  · have := top_off ‹_› h; omega
  · omega
theorem bk_stp {r : Nat} (h : r < 4294967296) : bk (stp r) = r := by
  unfold bk stp
  by_cases hr : r % 2 = 1
  · rw [if_pos hr, if_pos (top_on (by omega)), xor_can]; omega
  · rw [if_neg hr, if_neg (by omega)]; omega
theorem stp_bk {r : Nat} (h : r < 4294967296) : stp (bk r) = r := by
  unfold bk
  by_cases hr : 2147483648 ≤ r
  · have ht := top_off hr h
    rw [if_pos hr]
    unfold stp
    rw [if_pos (by omega), show (2 * (r ^^^ 2197175160) + 1) / 2 = r ^^^ 2197175160 by omega, xor_can]
  · rw [if_neg hr, stp_two]

/-! ### By many bits -/
def stps : Nat → Nat → Nat
  | 0, r => r
  | k + 1, r => stps k (stp r)
def bks : Nat → Nat → Nat
  | 0, r => r
  | k + 1, r => bks k (bk r)
theorem stps_succ (k r : Nat) : stps (k + 1) r = stp (stps k r) := by
  induction k generalizing r with
  | zero => rfl
  | succ k ih => exact ih (stp r)
theorem bks_succ (k r : Nat) : bks (k + 1) r = bk (bks k r) := by
  induction k generalizing r with
  | zero => rfl
  | succ k ih => exact ih (bk r)
theorem stps_zero (k : Nat) : stps k 0 = 0 := by
  induction k with
  | zero => rfl
  | succ k ih => exact ih
theorem stps_xor (k a b : Nat) : stps k (a ^^^ b) = stps k a ^^^ stps k b := by
  induction k generalizing a b with
  | zero => rfl
  | succ k ih => show stps k (stp (a ^^^ b)) = _; rw [stp_xor, ih]; rfl
theorem stps_add (j k r : Nat) : stps (j + k) r = stps k (stps j r) := by
  induction j generalizing r with
  | zero => rw [Nat.zero_add]; rfl
  | succ j ih => rw [show j + 1 + k = (j + k) + 1 by omega]; exact ih (stp r)
theorem stps_pow (k x : Nat) : stps k (2 ^ k * x) = x := by
  induction k generalizing x with
  | zero => simp [stps]
  | succ k ih => show stps k (stp (2 ^ (k + 1) * x)) = x; rw [Nat.pow_succ, Nat.mul_comm (2 ^ k) 2, Nat.mul_assoc, stp_two, ih]
theorem stps_lt {r : Nat} (h : r < 4294967296) (k : Nat) : stps k r < 4294967296 := by
  induction k generalizing r with
  | zero => exact h
  | succ k ih => exact ih (stp_lt h)
theorem bks_lt {r : Nat} (h : r < 4294967296) (k : Nat) : bks k r < 4294967296 := by
  induction k generalizing r with
  | zero => exact h
  | succ k ih => exact ih (bk_lt h)
theorem bks_stps {r : Nat} (h : r < 4294967296) (k : Nat) : bks k (stps k r) = r := by
  induction k generalizing r with
  | zero => rfl
  | succ k ih => rw [bks_succ, show stps (k + 1) r = stps k (stp r) from rfl, ih (stp_lt h), bk_stp h]
theorem stps_bks {r : Nat} (h : r < 4294967296) (k : Nat) : stps k (bks k r) = r := by
  induction k generalizing r with
  | zero => rfl
  | succ k ih => rw [stps_succ, show bks (k + 1) r = bks k (bk r) from rfl, ih (bk_lt h), stp_bk h]
theorem stps_nil {r : Nat} (h : r < 4294967296) (k : Nat) : stps k r = 0 ↔ r = 0 := by
  constructor
  · intro e
    have h1 := bks_stps h k
    have h2 := bks_stps (r := 0) (by decide) k
    rw [stps_zero] at h2
    rw [e, h2] at h1
    exact h1.symm
  · rintro rfl; exact stps_zero k

/-! ### By bytes -/
def on (r c : Nat) : Nat := stps 8 (r ^^^ c)
def off (r c : Nat) : Nat := bks 8 r ^^^ c
theorem byte_lt (c : UInt8) : c.toNat < 4294967296 := by have := c.toNat_lt; omega
theorem on_lt {r : Nat} (h : r < 4294967296) (c : UInt8) : on r c.toNat < 4294967296 := stps_lt (xor_lt h (byte_lt c)) 8
theorem off_lt {r : Nat} (h : r < 4294967296) (c : UInt8) : off r c.toNat < 4294967296 := xor_lt (bks_lt h 8) (byte_lt c)
theorem off_on {r : Nat} (h : r < 4294967296) (c : UInt8) : off (on r c.toNat) c.toNat = r := by
  unfold off on
  rw [bks_stps (xor_lt h (byte_lt c)), xor_can]
theorem on_off {r : Nat} (h : r < 4294967296) (c : UInt8) : on (off r c.toNat) c.toNat = r := by
  unfold off on
  rw [xor_can, stps_bks h]
def ons (r : Nat) (l : List UInt8) : Nat := l.foldl (fun r c => on r c.toNat) r
def offs (r : Nat) (l : List UInt8) : Nat := l.foldr (fun c r => off r c.toNat) r
theorem ons_append (r : Nat) (l m : List UInt8) : ons r (l ++ m) = ons (ons r l) m := by unfold ons; rw [List.foldl_append]
theorem ons_snoc (r : Nat) (l : List UInt8) (c : UInt8) : ons r (l ++ [c]) = on (ons r l) c.toNat := by rw [ons_append]; rfl
theorem offs_append (r : Nat) (l m : List UInt8) : offs r (l ++ m) = offs (offs r m) l := by unfold offs; rw [List.foldr_append]
theorem ons_lt {r : Nat} (h : r < 4294967296) (l : List UInt8) : ons r l < 4294967296 := by
  induction l generalizing r with
  | nil => exact h
  | cons c l ih => exact ih (on_lt h c)
theorem offs_lt {r : Nat} (h : r < 4294967296) (l : List UInt8) : offs r l < 4294967296 := by
  induction l with
  | nil => exact h
  | cons c l ih => exact off_lt ih c
theorem offs_ons {r : Nat} (h : r < 4294967296) (l : List UInt8) : offs (ons r l) l = r := by
  induction l generalizing r with
  | nil => rfl
  | cons c l ih =>
    show off (offs (ons (on r c.toNat) l) l) c.toNat = r
    rw [ih (on_lt h c), off_on h]
theorem ons_offs {r : Nat} (h : r < 4294967296) (l : List UInt8) : ons (offs r l) l = r := by
  induction l with
  | nil => rfl
  | cons c l ih =>
    show ons (on (off (offs r l) c.toNat) c.toNat) l = r
    rw [on_off (offs_lt h l), ih]
/-- A text as one number, its first byte lowest. -/
def num : List UInt8 → Nat
  | [] => 0
  | c :: l => c.toNat ^^^ 2 ^ 8 * num l
theorem ons_num (r : Nat) (l : List UInt8) : ons r l = stps (8 * l.length) (r ^^^ num l) := by
  induction l generalizing r with
  | nil => show r = stps 0 (r ^^^ 0); rw [Nat.xor_zero]; rfl
  | cons c l ih =>
    show ons (on r c.toNat) l = _
    rw [ih, List.length_cons, show 8 * (l.length + 1) = 8 + 8 * l.length by omega, stps_add]
    show _ = stps _ (stps 8 (r ^^^ (c.toNat ^^^ 2 ^ 8 * num l)))
    rw [← Nat.xor_assoc, stps_xor 8 (r ^^^ c.toNat), stps_pow]
    rfl

/-! ### Check numbers -/
def more (n : Nat) (l : List UInt8) : Nat := 4294967295 - ons (4294967295 - n) l
def less (n : Nat) (l : List UInt8) : Nat := 4294967295 - offs (4294967295 - n) l
theorem more_lt (n : Nat) (l : List UInt8) : more n l < 4294967296 := by unfold more; omega
theorem less_lt (n : Nat) (l : List UInt8) : less n l < 4294967296 := by unfold less; omega
theorem more_nil {n : Nat} (h : n < 4294967296) : more n [] = n := by unfold more ons; simp; omega
theorem less_nil {n : Nat} (h : n < 4294967296) : less n [] = n := by unfold less offs; simp; omega
theorem flip_flip {r : Nat} (h : r < 4294967296) : 4294967295 - (4294967295 - r) = r := by omega
theorem more_append (n : Nat) (l m : List UInt8) : more n (l ++ m) = more (more n l) m := by
  unfold more
  rw [ons_append, flip_flip (ons_lt (by omega) l)]
theorem less_append (n : Nat) (l m : List UInt8) : less n (l ++ m) = less (less n m) l := by
  unfold less
  rw [offs_append, flip_flip (offs_lt (by omega) m)]
theorem less_more {n : Nat} (h : n < 4294967296) (l : List UInt8) : less (more n l) l = n := by
  unfold less more
  rw [flip_flip (ons_lt (by omega) l), offs_ons (by omega), flip_flip h]
theorem more_less {n : Nat} (h : n < 4294967296) (l : List UInt8) : more (less n l) l = n := by
  unfold less more
  rw [flip_flip (offs_lt (by omega) l), ons_offs (by omega), flip_flip h]
theorem more_inj {m n : Nat} (hm : m < 4294967296) (hn : n < 4294967296) (l : List UInt8) : more m l = more n l ↔ m = n :=
  ⟨fun h => by rw [← less_more hm l, h, less_more hn l], fun h => by rw [h]⟩
theorem less_inj {m n : Nat} (hm : m < 4294967296) (hn : n < 4294967296) (l : List UInt8) : less m l = less n l ↔ m = n :=
  ⟨fun h => by rw [← more_less hm l, h, more_less hn l], fun h => by rw [h]⟩
theorem flip_xor {r : Nat} (h : r < 4294967296) : 4294967295 - r = 4294967295 ^^^ r := by
  apply Nat.eq_of_testBit_eq
  intro i
  rw [Nat.testBit_xor, show 4294967295 = 2 ^ 32 - 1 from rfl, Nat.testBit_two_pow_sub_one, show 2 ^ 32 - 1 - r = 2 ^ 32 - (r + 1) by omega, Nat.testBit_two_pow_sub_succ h]
  by_cases hi : i < 32
  · simp [hi]
  · have : r.testBit i = false := Nat.testBit_lt_two_pow (Nat.lt_of_lt_of_le h (Nat.pow_le_pow_right (n := 2) (i := 32) (by decide) (by omega)))
    simp [hi, this]
theorem more_xor {n : Nat} {a b : List UInt8} (h : a.length = b.length) : more n a ^^^ more n b = stps (8 * a.length) (num a ^^^ num b) := by
  unfold more
  rw [flip_xor (ons_lt (by omega) a), flip_xor (ons_lt (by omega) b), xor_swap, Nat.xor_self, Nat.zero_xor, ons_num, ons_num, ← h, ← stps_xor, xor_swap, Nat.xor_self, Nat.zero_xor]

/-! ### Bits turned over -/
theorem num_set (l : List UInt8) (j : Nat) (h : j < l.length) (v : UInt8) : num (l.set j (l[j] ^^^ v)) = num l ^^^ 2 ^ (8 * j) * v.toNat := by
  induction l generalizing j with
  | nil => simp at h
  | cons c l ih =>
    cases j with
    | zero =>
      show (c ^^^ v).toNat ^^^ 2 ^ 8 * num l = (c.toNat ^^^ 2 ^ 8 * num l) ^^^ 2 ^ (8 * 0) * v.toNat
      rw [UInt8.toNat_xor, Nat.xor_assoc, Nat.xor_assoc, Nat.xor_comm v.toNat]
      simp
    | succ j =>
      have hj : j < l.length := by simpa using h
      show c.toNat ^^^ 2 ^ 8 * num (l.set j (l[j] ^^^ v)) = (c.toNat ^^^ 2 ^ 8 * num l) ^^^ 2 ^ (8 * (j + 1)) * v.toNat
      rw [ih j hj, Nat.xor_assoc]
      congr 1
      rw [show 8 * (j + 1) = 8 + 8 * j by omega, Nat.pow_add, Nat.mul_assoc, Nat.mul_comm (2 ^ 8), Nat.mul_comm (2 ^ 8), Nat.mul_comm (2 ^ 8), ← Nat.shiftLeft_eq, ← Nat.shiftLeft_eq, ← Nat.shiftLeft_eq, Nat.shiftLeft_xor_distrib]
theorem burst {n k : Nat} {a b : List UInt8} {v : Nat} (h : a.length = b.length) (hv : v < 4294967296) (hk : k ≤ 8 * a.length) (hn : num a = num b ^^^ 2 ^ k * v) : more n a = more n b ↔ v = 0 := by
  rw [← xor_nil_iff, more_xor h, hn, Nat.xor_comm (num b), xor_can, show 8 * a.length = k + (8 * a.length - k) by omega, stps_add, stps_pow, stps_nil hv]
theorem low_succ (v i : Nat) : v % 2 ^ (i + 1) = v % 2 ^ i ^^^ 2 ^ i * (v / 2 ^ i % 2) := by
  apply Nat.eq_of_testBit_eq
  intro j
  rw [Nat.testBit_xor, Nat.testBit_mod_two_pow, Nat.testBit_mod_two_pow, Nat.testBit_two_pow_mul]
  by_cases h1 : j < i
  · have h3 : ¬ i ≤ j := by omega
    have h4 : j < i + 1 := by omega
    simp [h1, h3, h4]
  · by_cases h2 : j = i
    · subst h2
      simp [Nat.testBit, Nat.shiftRight_eq_div_pow]
    · have h3 : i ≤ j := by omega
      have h4 : ¬ j < i + 1 := by omega
      have h5 : (v / 2 ^ i % 2).testBit (j - i) = false := by
        apply Nat.testBit_lt_two_pow
        have : 2 ^ 1 ≤ 2 ^ (j - i) := Nat.pow_le_pow_right (by decide) (by omega)
        omega
      simp [h1, h4, h5]
end Go.Proofs.YtcbeommmacnkgaaDoor.Crc
