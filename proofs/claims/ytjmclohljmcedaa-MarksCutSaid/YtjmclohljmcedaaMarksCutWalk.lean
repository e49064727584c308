/-
  The walk of the law MarksCut: it returns true and writes nothing that was there.
-/
import Derived.Test.YtjmclohljmcedaaCuts
namespace Go.Proofs.Ytjmclohljmcedaa.marksCutW
open Go.RowKit
set_option maxRecDepth 100000 in
set_option maxHeartbeats 2000000 in
theorem walk_near (n : Int) (t : ByteArray) (v : Value) (l : List Int) (w : World) (h0 : -9223372036854775808 ≤ n) (h1 : n ≤ 9223372036854775807) (ht : t.size ≤ 1000) (hl : l.length ≤ 100) (hi : Ints w w.heap.size v l) (hf : Fits l) :
    Calls Try.prog 9 #[.int .i64 n, .string t, v] w fun e w' => e = .returned (.bool true) ∧ Below w.heap.size w w' := by
  have HI := Lib.hid hi
  have HF := Lib.hid hf
  obtain ⟨A, cv, rfl, hcv, _⟩ := hi
  have hm := mark_len h0 h1
  have hm2 := mark_len (n := (t.size : Int)) (by omega) (by omega)
  have hm3 := mark_len (n := (l.length : Int)) (by omega) (by omega)
  have hml := marks_len hf
  have hmt : (markText (bytesOf t)).length ≤ 1010 := by unfold markText; rw [List.length_append, bytes_len]; omega
  have hma : (markAll l).length ≤ 1010 := by unfold markAll; rw [List.length_append]; omega
  have C1 : Hid (∀ i, i < (⟨(mark n).toArray⟩ : ByteArray).size → got (bytesOf ((⟨(mark n).toArray⟩ : ByteArray).extract 0 i)) 0 = none) := fun i hi => by rw [bytes_take, bytes_of]; exact got_cut0 h0 h1 (by simpa [ByteArray.size_mk'] using hi)
  have C2 : Hid (∀ i, i < (⟨(markText (bytesOf t)).toArray⟩ : ByteArray).size → gotText (bytesOf ((⟨(markText (bytesOf t)).toArray⟩ : ByteArray).extract 0 i)) 0 = none) := fun i hi => by rw [bytes_take, bytes_of]; exact text_cut (by rw [bytes_len]; omega) (by simpa [ByteArray.size_mk'] using hi)
  have C3 : Hid (∀ i, i < (⟨(markAll l).toArray⟩ : ByteArray).size → gotAll (bytesOf ((⟨(markAll l).toArray⟩ : ByteArray).extract 0 i)) 0 = none) := fun i hi => by rw [bytes_take, bytes_of]; exact all_cut (by omega) hf (by simpa [ByteArray.size_mk'] using hi)
  have C4 : Hid (gotAll (bytesOf (⟨(markAll l).toArray⟩ : ByteArray)) 0 = some (l, (⟨(markAll l).toArray⟩ : ByteArray).size)) := by show _ = _; rw [bytes_of, all_put (by omega) hf]; simp [ByteArray.size_mk']
  have z1 : (⟨(mark n).toArray⟩ : ByteArray).size ≤ 10 := by simp [ByteArray.size_mk']; omega
  have z2 : (⟨(markText (bytesOf t)).toArray⟩ : ByteArray).size ≤ 1010 := by simpa [ByteArray.size_mk'] using hmt
  have z3 : (⟨(markAll l).toArray⟩ : ByteArray).size ≤ 1010 := by simpa [ByteArray.size_mk'] using hma
  have q1 : decide ((1000 : Int) < (t.size : Int)) = false := decide_eq_false (by omega)
  have q2 : decide ((100 : Int) < (l.length : Int)) = false := decide_eq_false (by omega)
  clear hf hml
  go_enter Try.func9, Try.ntmps9
  go_wp2_with fail
  refine (put_any _ _ h0 h1).mono ?_
  rintro e u1 ⟨rfl, hb1⟩
  go_wp2_with fail
  refine (putText_any _ _ (by omega)).mono ?_
  rintro e u2 ⟨rfl, hb2⟩
  have h12 := hb1.trans (hb2.mono hb1.size)
  go_wp2_with fail
  refine (putAll_any _ _ _ (HI.out.keep h12 h12.size) HF.out (by omega)).mono ?_
  rintro e u3 ⟨rfl, hb3⟩
  have h13 := h12.trans (hb3.mono h12.size)
  generalize (⟨(mark n).toArray⟩ : ByteArray) = S1 at *
  generalize (⟨(markText (bytesOf t)).toArray⟩ : ByteArray) = S2 at *
  generalize (⟨(markAll l).toArray⟩ : ByteArray) = S3 at *
  clear hm hm2 hm3 hmt hma
  go_wp2_with fail
  go_loopw [10] (fun i wr => ∃ k : Nat, k ≤ S1.size ∧ i = .int .i64 k ∧ Below w.heap.size w wr) (fun i _ => S1.size - (intOf i).toNat)
  case atStart => exact ⟨0, Nat.zero_le _, rfl, h13⟩
  case round =>
    obtain ⟨k, hk, rfl, hbel⟩ := hrel
    by_cases hlt : k < S1.size
    · have HC := Lib.hid (C1.out k hlt)
      go_wp2_with fail
      refine (get_any _ _ _ (by unfold maxLen; simp; omega)).mono ?_
      rintro e u4 ⟨rfl, he⟩
      rw [HC.out] at he
      simp only [getR] at he
      subst he
      go_wp2_with fail
      go_roundw
      case rel => exact ⟨k + 1, by omega, by go_num, hbel⟩
      case measure => simp [intOf]; omega
    · go_wp2_with fail
      obtain ⟨wo, rfl⟩ : ∃ wo : World, wo = wr := ⟨_, rfl⟩
      go_loopw [14] (fun i wr => ∃ k : Nat, k ≤ S2.size ∧ i = .int .i64 k ∧ Below w.heap.size w wr) (fun i _ => S2.size - (intOf i).toNat)
      case atStart => exact ⟨0, Nat.zero_le _, rfl, hbel⟩
      case round =>
        obtain ⟨k2, hk2, rfl, hbel2⟩ := hrel
        by_cases hlt2 : k2 < S2.size
        · have HC := Lib.hid (C2.out k2 hlt2)
          go_wp2_with fail
          refine (getText_any _ _ _ (by simp; omega)).mono ?_
          rintro e u5 ⟨hb5, he⟩
          rw [HC.out] at he
          simp only [textR] at he
          subst he
          have h15 := hbel2.trans (hb5.mono hbel2.size)
          go_wp2_with fail
          go_roundw
          case rel => exact ⟨k2 + 1, by omega, by go_num, h15⟩
          case measure => simp [intOf]; omega
        · go_wp2_with fail
          obtain ⟨wo2, rfl⟩ : ∃ wo : World, wo = wr := ⟨_, rfl⟩
          go_loopw [18] (fun i wr => ∃ k : Nat, k ≤ S3.size ∧ i = .int .i64 k ∧ Below w.heap.size w wr) (fun i _ => S3.size - (intOf i).toNat)
          case atStart => exact ⟨0, Nat.zero_le _, rfl, hbel2⟩
          case round =>
            obtain ⟨k3, hk3, rfl, hbel3⟩ := hrel
            by_cases hlt3 : k3 < S3.size
            · have HC := Lib.hid (C3.out k3 hlt3)
              go_wp2_with fail
              refine (getAll_any _ _ _ (by simp; omega)).mono ?_
              rintro e u6 ⟨hb6, he⟩
              rw [HC.out] at he
              simp only at he
              subst he
              have h16 := hbel3.trans (hb6.mono hbel3.size)
              go_wp2_with fail
              go_roundw
              case rel => exact ⟨k3 + 1, by omega, by go_num, h16⟩
              case measure => simp [intOf]; omega
            · go_wp2_with fail
              refine (getAll_any _ _ _ (by omega)).mono ?_
              rintro e u6 ⟨hb6, he⟩
              rw [C4.out] at he
              simp only at he
              obtain ⟨v6, rfl, hr6⟩ := he
              have h16 := hbel3.trans (hb6.mono hbel3.size)
              have HR := Lib.hid hr6
              clear hr6
              go_wp2_with fail
              refine (same_any _ _ l _ _ _ (Ints.own HR.out) (HI.out.keep h16 h16.size) (by omega)).mono ?_
              rintro e u7 ⟨rfl, hs7⟩
              have h17 := h16.trans (hs7 _)
              go_wp2_with fail
              refine (works_any _).mono ?_
              rintro e u8 ⟨rfl, hb8⟩
              go_wp2_with fail
              go_ret
              exact ⟨rfl, h17.trans (hb8.mono h17.size)⟩
set_option maxRecDepth 100000 in
set_option maxHeartbeats 1000000 in
theorem walk_far (n : Int) (t : ByteArray) (A : Option Addr) (len cap : Nat) (w : World) (h : ¬ (t.size ≤ 1000 ∧ len ≤ 100)) :
    Calls Try.prog 9 #[.int .i64 n, .string t, .slice A len cap] w fun e w' => e = .returned (.bool true) ∧ Below w.heap.size w w' := by
  by_cases l1 : t.size ≤ 1000
  · have l2 : 100 < len := by omega
    go_enter Try.func9, Try.ntmps9
    go_wp2_with fail
    go_ret
    exact ⟨rfl, Below.refl _ _⟩
  · have l2 : 1000 < t.size := by omega
    go_enter Try.func9, Try.ntmps9
    go_wp2_with fail
    go_ret
    exact ⟨rfl, Below.refl _ _⟩
theorem walk (a0 : Int) (a1 : ByteArray) (a2 : Option Addr) (len2 cap2 : Nat) (z2 : List Int) (w : World) (w0 : (Lit.int .i64 a0).wf = true) (_w1 : a1.size ≤ maxLen) (w2 : IsRow .i64 w a2 len2 cap2 z2) :
    Calls Try.prog 9 #[.int .i64 a0, .string a1, .slice a2 len2 cap2] w fun e w' => e = .returned (.bool true) ∧ Below w.heap.size w w' := by
  obtain ⟨h1, h2, h3⟩ := w2.ints
  by_cases h : a1.size ≤ 1000 ∧ len2 ≤ 100
  · exact walk_near a0 a1 _ (z2.take len2) w (i64_range w0).1 (i64_range w0).2 h.1 (by omega) h2 h3
  · exact walk_far a0 a1 a2 len2 cap2 w h
end Go.Proofs.Ytjmclohljmcedaa.marksCutW
