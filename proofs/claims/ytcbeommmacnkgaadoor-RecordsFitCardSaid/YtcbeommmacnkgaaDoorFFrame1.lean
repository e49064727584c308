/-
  Contracts of checkOf and Frame of package frames, and of Frame of the document's answer.
-/
import Derived.Test.YtcbeommmacnkgaaDoorFMath1
import Derived.Laws.IdiomStrings
namespace Go.Proofs.YtcbeommmacnkgaaDoor
open Go.RowKit
open Crc
theorem four_back (y : Nat) (hy : y < 4294967296) (w : World) : (convert 48 9 (.slice (some ⟨w.heap.size, 0, none⟩) 4 4)).run Tryd.prog
    (w.alloc (.cells #[.int .u8 ((y : Int) % 256), .int .u8 ((y : Int) / 256 % 256), .int .u8 ((y : Int) / 65536 % 256), .int .u8 ((y : Int) / 16777216)] 5)) =
    .ok (.string ⟨(le4 y).toArray⟩) (w.alloc (.cells #[.int .u8 ((y : Int) % 256), .int .u8 ((y : Int) / 256 % 256), .int .u8 ((y : Int) / 65536 % 256), .int .u8 ((y : Int) / 16777216)] 5)) := by
  refine run_convert_bytes_back _ 48 9 5 ⟨w.heap.size, 0, none⟩ 4 (le4 y) Tryd.underlying48 Tryd.underlying5 Tryd.underlying9 (fun j hj => ?_)
  have hj' : j < 4 := hj
  rcases (show j = 0 ∨ j = 1 ∨ j = 2 ∨ j = 3 by omega) with rfl | rfl | rfl | rfl
  all_goals
    simp [go_sem, Addr.add, le4]
    try omega
theorem tx_of (l : List UInt8) : tx ⟨l.toArray⟩ = l := by simp [tx]
theorem bytes_of (l : List UInt8) : bytesOf ⟨l.toArray⟩ = l := by simp [bytesOf]
theorem str_of (s : ByteArray) : s = ⟨(tx s).toArray⟩ := by unfold tx; rfl
set_option maxRecDepth 100000 in
set_option maxHeartbeats 1000000 in
theorem checkOf_any (m p : ByteArray) (w : World) (hm : m.size ≤ maxLen) (hp : p.size ≤ maxLen) :
    Calls Tryd.prog 39 #[.string m, .string p] w (PutPost (checkNo (tx m) (tx p)) w) := by
  have g1 := fun X => sum_any m X hm
  have hx1 := more_lt 0 (tx m)
  have HC : Hid (checkNo (tx m) (tx p) = le4 (more (more 0 (tx m)) (tx p))) := by show _ = _; unfold checkNo; rw [more_append]
  generalize more 0 (tx m) = x at *
  have g2 := fun X => more_any x p X hx1 hp
  have hx2 := more_lt x (tx p)
  generalize more x (tx p) = y at *
  have G1 := Lib.hid g1
  have G2 := Lib.hid g2
  clear g1 g2
  have hcv := four_back y hx2 w
  go_enter Tryd.func39, Tryd.ntmps39
  go_wp2_with fail
  refine (G1.out _).mono ?_
  rintro e w1 ⟨rfl, rfl⟩
  go_wp2_with fail
  refine (G2.out _).mono ?_
  rintro e w1 ⟨rfl, rfl⟩
  go_wp2_with fail
  go_ret
  exact ⟨by rw [HC.out]; rfl, (Below.refl _ _).alloc (Nat.le_refl _) _⟩
/-- What Frame answers. -/
def frameR (p : List UInt8) : Value := if 8192 < p.length then .tuple #[.string ⟨#[]⟩, .int .i64 3] else .tuple #[.string ⟨(frameOf p).toArray⟩, .int .i64 0]
def FramePost (p : List UInt8) (w : World) (e : Ending) (w' : World) : Prop := e = .returned (frameR p) ∧ Below w.heap.size w w'
theorem frame_str (p : ByteArray) : (⟨(mark (p.size : Int)).toArray⟩ ++ ⟨(checkNo (mark (p.size : Int)) (tx p)).toArray⟩ ++ p : ByteArray) = ⟨(frameOf (tx p)).toArray⟩ := by
  apply ByteArray.ext
  simp [ByteArray.data_append, frameOf, tx]
set_option maxRecDepth 100000 in
set_option maxHeartbeats 1000000 in
theorem frame_any (p : ByteArray) (w : World) (hp : p.size ≤ maxLen) :
    Calls Tryd.prog 18 #[.string p] w (FramePost (tx p) w) := by
  unfold maxLen at hp
  by_cases h : 8192 < p.size
  · have HR : Hid (frameR (tx p) = .tuple #[.string ⟨#[]⟩, .int .i64 3]) := by show _ = _; unfold frameR; rw [if_pos (by rw [tx_len]; exact h)]
    have t1 : decide (8192 < (p.size : Int)) = true := decide_eq_true (by omega)
    go_enter Tryd.func18, Tryd.ntmps18
    go_wp2_with fail
    go_ret2
    exact ⟨by rw [HR.out]; rfl, Below.refl _ _⟩
  · have HR : Hid (frameR (tx p) = .tuple #[.string ⟨(frameOf (tx p)).toArray⟩, .int .i64 0]) := by show _ = _; unfold frameR; rw [if_neg (by rw [tx_len]; exact h)]
    have t1 : decide (8192 < (p.size : Int)) = false := decide_eq_false (by omega)
    have hm := mark_bd (n := (p.size : Int)) (by omega) (by omega)
    have G1 := Lib.hid (fun X => put_any (p.size : Int) X (by omega) (by omega))
    have G2 := Lib.hid (fun X => checkOf_any ⟨(mark (p.size : Int)).toArray⟩ p X (by show (mark (p.size : Int)).toArray.size ≤ _; rw [List.size_toArray]; unfold maxLen; omega) (by unfold maxLen; omega))
    rw [tx_of] at G2
    have HF := Lib.hid (frame_str p)
    have hcl := checkNo_len (mark (p.size : Int)) (tx p)
    generalize checkNo (mark (p.size : Int)) (tx p) = C at *
    generalize mark (p.size : Int) = M at *
    go_enter Tryd.func18, Tryd.ntmps18
    go_wp2_with fail
    refine (G1.out _).mono ?_
    rintro e w1 ⟨rfl, hb1⟩
    go_wp2_with fail
    refine (G2.out _).mono ?_
    rintro e w2 ⟨rfl, hb2⟩
    go_wp2_with fail
    go_ret2
    exact ⟨by rw [HR.out, ← HF.out]; rfl, hb1.trans (hb2.mono hb1.size)⟩
end Go.Proofs.YtcbeommmacnkgaaDoor
