/-
  The walk of the law ChecksTurned: it returns true and writes nothing that was there.
-/
import Derived.Test.YtkhfalnlfcoiaaaCWorks
import Derived.Laws.IdiomStrings
import Derived.Below
namespace Go.Proofs.Ytkhfalnlfcoiaaa.checksTurnedW
open Go.RowKit
open Crc
theorem u32_nat {n : Int} (h : (Lit.int .u32 n).wf = true) : ∃ k : Nat, n = k ∧ k < 4294967296 := by
  simp [Lit.wf, IntKind.min, IntKind.max, IntKind.signed, IntKind.bits] at h
  exact ⟨n.toNat, by omega, by omega⟩
/-- The bytes l lie in block b, from its head on, and may be written. -/
def BytesAt (W : World) (b : Nat) (l : List UInt8) : Prop := ∀ (j : Nat) (h : j < l.length), W.cell? ⟨b, j, none⟩ = some (.int .u8 (l[j].toNat : Int)) ∧ W.frozen? ⟨b, j, none⟩ = false
theorem bytes_made (s : ByteArray) (w : World) : ∃ (cap : Nat) (W : World), (convert 9 30 (.string s)).run Try.prog w = .ok (.slice (some ⟨w.heap.size, 0, none⟩) s.size cap) W ∧ s.size ≤ cap ∧ Below w.heap.size w W ∧ BytesAt W w.heap.size (tx s) := by
  refine ⟨_, _, run_bytes_of_string w 9 30 5 s Try.underlying9 Try.underlying30 Try.underlying5, ?_, ?_, ?_⟩
  · have := grownCap_ge w s.size 0 5; omega
  · exact ((Below.refl _ w).drew).alloc (by simp) _
  · intro j hj
    have hj' : j < s.data.size := hj
    have hz : j < (bytesRow s (grownCap w s.size 0 5)).size := by have hx : s.data.size = s.size := rfl; unfold bytesRow; simp; omega
    constructor
    · have := World.cell?_alloc_mark w.drew (bytesRow s (grownCap w s.size 0 5)) 5 ((bytesRow s (grownCap w s.size 0 5)).size, (bytesRow s (grownCap w s.size 0 5)).size + 1) j
      rw [bytesRow_at s _ j hj'] at this
      exact this
    · have := World.frozen?_alloc_mark w.drew (bytesRow s (grownCap w s.size 0 5)) 5 (bytesRow s (grownCap w s.size 0 5)).size ((bytesRow s (grownCap w s.size 0 5)).size + 1) j
      rw [decide_eq_false (by omega)] at this
      exact this
theorem mul_xor (k a b : Nat) : 2 ^ k * (a ^^^ b) = 2 ^ k * a ^^^ 2 ^ k * b := by
  rw [Nat.mul_comm, Nat.mul_comm (2 ^ k) a, Nat.mul_comm (2 ^ k) b, ← Nat.shiftLeft_eq, ← Nat.shiftLeft_eq, ← Nat.shiftLeft_eq, Nat.shiftLeft_xor_distrib]
/-- The byte that is put against the text's in the round j. -/
def put (v j m : Nat) : UInt8 := UInt8.ofNat (v / 2 ^ j % 2 * 2 ^ m)
theorem put_val {v j m : Nat} (hm : m < 8) : (put v j m).toNat = v / 2 ^ j % 2 * 2 ^ m := by
  have h1 : v / 2 ^ j % 2 < 2 := Nat.mod_lt _ (by decide)
  have h2 : 2 ^ m ≤ 2 ^ 7 := Nat.pow_le_pow_right (by decide) (by omega)
  have h3 : v / 2 ^ j % 2 * 2 ^ m ≤ 1 * 2 ^ 7 := Nat.mul_le_mul (by omega) h2
  unfold put
  rw [UInt8.toNat_ofNat']
  exact Nat.mod_eq_of_lt (by omega)
theorem put_bits {v j m : Nat} (hv : v < 4294967296) (hm : m < 8) (c : UInt8) :
    bits .xor .u8 (c.toNat : Int) (bits .and .u32 ((v : Int) / 2 ^ j) 1 % 256 * 2 ^ m % 256) = (((c ^^^ put v j m).toNat : Nat) : Int) := by
  have h0 : ((v : Int) / 2 ^ j) = ((v / 2 ^ j : Nat) : Int) := by simp
  have h1 : v / 2 ^ j % 2 < 2 := Nat.mod_lt _ (by decide)
  have h2 : 2 ^ m ≤ 2 ^ 7 := Nat.pow_le_pow_right (by decide) (by omega)
  have h3 : v / 2 ^ j % 2 * 2 ^ m ≤ 1 * 2 ^ 7 := Nat.mul_le_mul (by omega) h2
  have h4 : v / 2 ^ j ≤ v := Nat.div_le_self _ _
  have hp := put_val (v := v) (j := j) hm
  have e : bits .and .u32 ((v : Int) / 2 ^ j) 1 % 256 * 2 ^ m % 256 = ((v / 2 ^ j % 2 * 2 ^ m : Nat) : Int) := by
    rw [h0, and_one (by omega), show ((v / 2 ^ j % 2 : Nat) : Int) % 256 = ((v / 2 ^ j % 2 : Nat) : Int) by omega]
    have h5 : ((v / 2 ^ j % 2 * 2 ^ m : Nat) : Int) = ((v / 2 ^ j % 2 : Nat) : Int) * 2 ^ m := by simp
    rw [← h5]
    omega
  rw [e, ← hp, UInt8.toNat_xor]
  exact u8_xor_nat _ _ c.toNat_lt (put v j m).toNat_lt
theorem bytes_put {W : World} {b : Nat} {l : List UInt8} (h : BytesAt W b l) (i : Nat) (x : UInt8) : BytesAt (W.setCell ⟨b, i, none⟩ (.int .u8 (x.toNat : Int))) b (l.set i x) := by
  intro j hj
  have hj' : j < l.length := by simpa using hj
  obtain ⟨h1, h2⟩ := h j hj'
  refine ⟨?_, by rw [World.frozen?_setCell]; exact h2⟩
  by_cases he : i = j
  · subst he
    rw [World.cell?_setCell_same' _ _ _ (by rw [h1]; rfl)]
    simp
  · rw [World.cell?_setCell_other _ _ _ _ (fun e => he (by injection e)), h1]
    simp [List.getElem_set_ne he]
theorem num_put {l t : List UInt8} {k v j : Nat} (hN : num l = num t ^^^ 2 ^ k * (v % 2 ^ j)) (hi : (k + j) / 8 < l.length) :
    num (l.set ((k + j) / 8) (l[(k + j) / 8] ^^^ put v j ((k + j) % 8))) = num t ^^^ 2 ^ k * (v % 2 ^ (j + 1)) := by
  rw [num_set l _ hi, hN, low_succ, mul_xor, put_val (Nat.mod_lt _ (by decide)), Nat.xor_assoc]
  congr 2
  rw [Nat.mul_comm (v / 2 ^ j % 2), ← Nat.mul_assoc, ← Nat.mul_assoc, ← Nat.pow_add, ← Nat.pow_add]
  congr 2
  omega
theorem bytes_back {W : World} {b : Nat} {l : List UInt8} (h : BytesAt W b l) (n cap : Nat) (hn : l.length = n) :
    (convert 30 9 (.slice (some ⟨b, 0, none⟩) n cap)).run Try.prog W = .ok (.string ⟨l.toArray⟩) W := by
  subst hn
  refine run_convert_bytes_back W 30 9 5 ⟨b, 0, none⟩ cap l Try.underlying30 Try.underlying5 Try.underlying9 (fun j hj => ?_)
  have := (h j hj).1
  have e : (⟨b, 0, none⟩ : Addr).add j = ⟨b, j, none⟩ := by cases j <;> simp [Addr.add]
  rw [e]; exact this
set_option maxRecDepth 100000 in
set_option maxHeartbeats 1000000 in
theorem walk (s : ByteArray) (a1 a2 : Int) (w : World) (hs : s.size ≤ maxLen) (w1 : (Lit.int .u32 a1).wf = true) (w2 : (Lit.int .u32 a2).wf = true) :
    Calls Try.prog 8 #[.string s, .int .u32 a1, .int .u32 a2] w fun e w' => e = .returned (.bool true) ∧ Below w.heap.size w w' := by
  obtain ⟨p, rfl, hp⟩ := u32_nat w1
  obtain ⟨v, rfl, hv⟩ := u32_nat w2
  clear w1 w2
  by_cases h1 : 20000 < s.size
  · have t1 : decide (20000 < (s.size : Int)) = true := decide_eq_true (by omega)
    go_enter Try.func8, Try.ntmps8
    go_wp2_with fail
    refine (works_any _).mono ?_
    rintro e w' ⟨rfl, hb4⟩
    go_wp2_with fail
    go_ret
    exact ⟨rfl, hb4⟩
  have t1 : decide (20000 < (s.size : Int)) = false := decide_eq_false (by omega)
  by_cases h2 : s.size < 4
  · have t2 : decide ((s.size : Int) < 4) = true := decide_eq_true (by omega)
    go_enter Try.func8, Try.ntmps8
    go_wp2_with fail
    refine (works_any _).mono ?_
    rintro e w' ⟨rfl, hb4⟩
    go_wp2_with fail
    go_ret
    exact ⟨rfl, hb4⟩
  · have t2 : decide ((s.size : Int) < 4) = false := decide_eq_false (by omega)
    obtain ⟨cap, W, hconv, hcap, hB, hA⟩ := bytes_made s w
    go_enter Try.func8, Try.ntmps8
    go_wp2_with fail
    clear hconv
    have hk0 : (0 : Int) ≤ (p : Int) % (8 * (s.size : Int) - 31) := Int.emod_nonneg _ (by omega)
    have hk1 : (p : Int) % (8 * (s.size : Int) - 31) < 8 * (s.size : Int) - 31 := Int.emod_lt_of_pos _ (by omega)
    generalize (p : Int) % (8 * (s.size : Int) - 31) = K at hk0 hk1 ⊢
    obtain ⟨k, rfl⟩ : ∃ k : Nat, K = k := ⟨K.toNat, by omega⟩
    go_loopw [9] (fun i wr => ∃ (j : Nat) (l : List UInt8), j ≤ 32 ∧ i = .int .i64 j ∧ l.length = s.size ∧ BytesAt wr w.heap.size l ∧ num l = num (tx s) ^^^ 2 ^ k * (v % 2 ^ j) ∧ Below w.heap.size w wr) (fun i _ => 32 - (intOf i).toNat)
    case atStart => exact ⟨0, tx s, by omega, rfl, rfl, hA, by simp [Nat.mod_one], hB⟩
    case round =>
      obtain ⟨j, l, hj, rfl, hl, hAt, hN, hBl⟩ := hrel
      have HL := Lib.hid hl
      have HN := Lib.hid hN
      clear hl hN hA hB
      by_cases hlt : j < 32
      · obtain ⟨hc, hf⟩ := hAt ((k + j) / 8) (by have := HL.out; omega)
        have HA := Lib.hid hAt
        clear hAt
        have HC := Lib.hid (put_bits (j := j) (m := (k + j) % 8) hv (Nat.mod_lt _ (by decide)) (l[(k + j) / 8]'(by have := HL.out; omega)))
        go_wp2_with fail
        go_roundw
        case rel =>
          refine ⟨j + 1, l.set ((k + j) / 8) ((l[(k + j) / 8]'(by have := HL.out; omega)) ^^^ put v j ((k + j) % 8)), by omega, by go_num, by rw [List.length_set]; exact HL.out, ?_, num_put HN.out (by have := HL.out; omega), hBl.setCell (Nat.le_refl _) _⟩
          rw [HC.out]
          exact bytes_put HA.out _ _
        case measure => simp [intOf]; omega
      · have hj32 : j = 32 := by omega
        have hb := burst (n := 0) (a := l) (b := tx s) (v := v) (k := k) HL.out hv (by have := HL.out; omega) (by rw [HN.out, hj32, Nat.mod_eq_of_lt hv])
        have hback := bytes_back hAt s.size cap HL.out
        have g1 := fun X => sum_any ⟨l.toArray⟩ X (by have := HL.out; show l.toArray.size ≤ _; rw [List.size_toArray]; omega)
        rw [show tx ⟨l.toArray⟩ = l from by simp [tx]] at g1
        have g2 := fun X => sum_any s X hs
        generalize more 0 l = x at g1 hb
        generalize more 0 (tx s) = y at g2 hb
        have hk : (((x : Int) != (y : Int)) == ((v : Int) != 0)) = true := by
          rw [beq_iff_eq, Bool.eq_iff_iff, bne_iff_ne, bne_iff_ne]; omega
        have G1 := Lib.hid g1
        have G2 := Lib.hid g2
        clear g1 g2 hb hj32 hAt
        go_wp2_with fail
        refine (G1.out _).mono ?_
        rintro e w1 ⟨rfl, rfl⟩
        go_wp2_with fail
        refine (G2.out _).mono ?_
        rintro e w1 ⟨rfl, rfl⟩
        go_wp2_with fail
        refine (works_any _).mono ?_
        rintro e w' ⟨rfl, hb4⟩
        go_wp2_with fail
        go_ret
        exact ⟨rfl, hBl.trans (hb4.mono hBl.size)⟩
end Go.Proofs.Ytkhfalnlfcoiaaa.checksTurnedW
