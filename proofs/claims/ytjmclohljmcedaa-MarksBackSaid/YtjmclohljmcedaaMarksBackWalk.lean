/-
  The walk of the law MarksBack: it returns true and writes nothing that was there.
-/
import Derived.Test.YtjmclohljmcedaaGetText
namespace Go.Proofs.Ytjmclohljmcedaa.marksBackW
open Go.RowKit
open Go.Lib (uvarint zigzag unzigzag uvarint_small uvarint_big)
theorem i64_bd {n : Int} (h : (Lit.int .i64 n).wf = true) : -9223372036854775808 ≤ n ∧ n ≤ 9223372036854775807 := by
  simp [Lit.wf, IntKind.min, IntKind.max, IntKind.signed, IntKind.bits] at h
  omega
theorem got_back {n : Int} (h0 : -9223372036854775808 ≤ n) (h1 : n ≤ 9223372036854775807) (x y : List UInt8) : got (x ++ (mark n ++ y)) x.length = some (n, x.length + (mark n).length) := by
  rw [got_nat (by simp), List.drop_left, show mark n = uvarint (zigzag n) from rfl, dec_mark (Lib.zigzag_lt h0 h1)]
  simp [unzig_zig]
theorem gotText_back (x t y : List UInt8) (ht : t.length ≤ 1000000) : gotText (x ++ (markText t ++ y)) x.length = some (t, x.length + (markText t).length) := by
  unfold gotText gotCount markText
  rw [List.append_assoc, got_back (by omega) (by omega)]
  simp only
  rw [if_pos ⟨by omega, by simp; omega⟩]
  simp only [Option.map_some, Int.toNat_natCast, Option.some.injEq, Prod.mk.injEq]
  constructor
  · rw [← List.append_assoc, ← List.length_append, List.drop_left, List.take_left]
  · simp; omega
theorem bytes_cat (s t : ByteArray) : bytesOf (s ++ t) = bytesOf s ++ bytesOf t := by simp [bytesOf, ByteArray.data_append]
theorem mk_bytes (s : ByteArray) : (⟨(bytesOf s).toArray⟩ : ByteArray) = s := by simp [bytesOf]
theorem bytes_mk (l : List UInt8) : bytesOf ⟨l.toArray⟩ = l := by simp [bytesOf]
set_option maxRecDepth 100000 in
set_option maxHeartbeats 1000000 in
theorem walk (a0 : Int) (a1 a2 : ByteArray) (w : World) (w0 : (Lit.int .i64 a0).wf = true) (_w1 : a1.size ≤ maxLen) (_w2 : a2.size ≤ maxLen) :
    Calls Try.prog 7 #[.int .i64 a0, .string a1, .string a2] w fun e w' => e = .returned (.bool true) ∧ Below w.heap.size w w' := by
  obtain ⟨h0, h1⟩ := i64_bd w0
  clear w0
  by_cases hb : a1.size ≤ 1000 ∧ a2.size ≤ 1000
  · obtain ⟨l1, l2⟩ := hb
    have hm := mark_len h0 h1
    have hm2 := mark_len (n := (a2.size : Int)) (by omega) (by omega)
    have hmt : (markText (bytesOf a2)).length = (mark (a2.size : Int)).length + a2.size := by unfold markText; rw [List.length_append, bytes_len]
    have HMT := Lib.hid hmt
    have hmtl : (markText (bytesOf a2)).length ≤ 1010 := by omega
    have HG := Lib.hid (show got (bytesOf (a1 ++ ⟨(mark a0).toArray⟩ ++ a2)) (a1.size : Int) = some (a0, a1.size + (mark a0).length) from by
      rw [bytes_cat, bytes_cat, bytes_mk, List.append_assoc]; exact got_back h0 h1 _ _)
    have HT := Lib.hid (show gotText (bytesOf (a1 ++ ⟨(markText (bytesOf a2)).toArray⟩ ++ ⟨(mark a0).toArray⟩)) (a1.size : Int) = some (bytesOf a2, a1.size + (markText (bytesOf a2)).length) from by
      rw [bytes_cat, bytes_cat, bytes_mk, bytes_mk, List.append_assoc]; exact gotText_back _ _ _ (by rw [bytes_len]; omega))
    clear _w1 _w2 hmt
    go_enter Try.func7, Try.ntmps7
    go_wp2_with fail
    refine (put_any _ _ h0 h1).mono ?_
    rintro e u1 ⟨rfl, hb1⟩
    go_wp2_with fail
    refine (get_any _ _ _ (by unfold maxLen; simp [ByteArray.size_mk']; omega)).mono ?_
    rintro e u2 ⟨rfl, he⟩
    rw [HG.out] at he
    simp only [getR] at he
    subst he
    go_wp2_with fail
    refine (putText_any _ _ (by omega)).mono ?_
    rintro e u3 ⟨rfl, hb3⟩
    have h13 := hb1.trans (hb3.mono hb1.size)
    go_wp2_with fail
    refine (getText_any _ _ _ (by simp [ByteArray.size_mk']; omega)).mono ?_
    rintro e u4 ⟨hb4, he⟩
    rw [HT.out] at he
    simp only [textR, mk_bytes] at he
    subst he
    have h14 := h13.trans (hb4.mono h13.size)
    go_wp2_with fail
    refine (putText_any _ _ (by omega)).mono ?_
    rintro e u5 ⟨rfl, hb5⟩
    have h15 := h14.trans (hb5.mono h14.size)
    go_wp2_with fail
    refine (works_any _).mono ?_
    rintro e u6 ⟨rfl, hb6⟩
    go_wp2_with fail
    go_ret
    exact ⟨rfl, h15.trans (hb6.mono h15.size)⟩
  · go_enter Try.func7, Try.ntmps7
    by_cases l1 : a1.size ≤ 1000
    · have l2 : 1000 < a2.size := by omega
      go_wp2_with fail
      go_ret
      exact ⟨rfl, Below.refl _ _⟩
    · have l2 : 1000 < a1.size := by omega
      go_wp2_with fail
      go_ret
      exact ⟨rfl, Below.refl _ _⟩
end Go.Proofs.Ytjmclohljmcedaa.marksBackW
