/-
  The contracts of PutText of package marks and of the document's answer.
-/
import Derived.Test.YtjmclohljmcedaaRGet
namespace Go.Proofs.Ytjmclohljmcedaa
open Go.RowKit
open Go.Lib (uvarint zigzag unzigzag uvarint_small uvarint_big)
def markText (l : List UInt8) : List UInt8 := mark l.length ++ l
theorem mark_len {n : Int} (h0 : -9223372036854775808 ≤ n) (h1 : n ≤ 9223372036854775807) : 1 ≤ (mark n).length ∧ (mark n).length ≤ 10 :=
  ⟨Lib.uvarint_pos _, Lib.uvarint_length64 (Lib.zigzag_lt h0 h1)⟩
theorem str_cat (x : List UInt8) (t : ByteArray) : (⟨x.toArray⟩ ++ t : ByteArray) = ⟨(x ++ bytesOf t).toArray⟩ := by
  apply ByteArray.ext
  simp [ByteArray.data_append, bytesOf]
set_option maxRecDepth 100000 in
set_option maxHeartbeats 1000000 in
theorem putText_any (t : ByteArray) (w : World) (ht : t.size ≤ 140737488351232) :
    Calls Try.prog 18 #[.string t] w (PutPost (markText (bytesOf t)) w) := by
  have hml := mark_len (n := (t.size : Int)) (by omega) (by omega)
  go_enter Try.func18, Try.ntmps18
  go_wp2_with (go_at_call 11; refine (put_any _ _ (by omega) (by omega)).mono ?_; rintro e w' ⟨rfl, hb⟩)
  go_ret
  exact ⟨by rw [markText, bytes_len, ← str_cat]; rfl, hb⟩
set_option maxRecDepth 100000 in
set_option maxHeartbeats 1000000 in
theorem rputText_any (t : ByteArray) (w : World) (ht : t.size ≤ 140737488351232) :
    Calls Try.prog 19 #[.string t] w (PutPost (markText (bytesOf t)) w) := by
  have hml := mark_len (n := (t.size : Int)) (by omega) (by omega)
  go_enter Try.func19, Try.ntmps19
  go_wp2_with (go_at_call 12; refine (rput_any _ _ (by omega) (by omega)).mono ?_; rintro e w' ⟨rfl, hb⟩)
  go_ret
  exact ⟨by rw [markText, bytes_len, ← str_cat]; rfl, hb⟩
end Go.Proofs.Ytjmclohljmcedaa
