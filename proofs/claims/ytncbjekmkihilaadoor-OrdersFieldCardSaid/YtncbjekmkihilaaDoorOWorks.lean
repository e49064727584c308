/-
  works() of the statements of orders: the chapter's examples.
-/
import Derived.Test.YtncbjekmkihilaaDoorODec
import Derived.Test.YtncbjekmkihilaaDoorOPure
namespace Go.Proofs.YtncbjekmkihilaaDoor
open Go.RowKit Go.Sort
open Go.Lib (uvarint zigzag unzigzag uvarint_small uvarint_big)
theorem o7_enc : (Od.mk 7 1 (-1) 2 100).enc = [14, 2, 1, 4, 200, 1] := by
  have m7 : mark 7 = [14] := by rw [show mark 7 = uvarint 14 from rfl, uvarint_small (by decide)]; rfl
  have m1 : mark 1 = [2] := by rw [show mark 1 = uvarint 2 from rfl, uvarint_small (by decide)]; rfl
  have mm : mark (-1) = [1] := by rw [show mark (-1) = uvarint 1 from rfl, uvarint_small (by decide)]; rfl
  have m2 : mark 2 = [4] := by rw [show mark 2 = uvarint 4 from rfl, uvarint_small (by decide)]; rfl
  have m100 : mark 100 = [200, 1] := by rw [show mark 100 = uvarint 200 from rfl, uvarint_big (by decide), uvarint_small (by decide)]; rfl
  show mark 7 ++ (mark 1 ++ (mark (-1) ++ (mark 2 ++ mark 100))) = _
  rw [m7, m1, mm, m2, m100]; rfl
theorem o7_encR : (Od.mk 7 1 (-1) 2 100).encR = .tuple #[.string ⟨#[14, 2, 1, 4, 200, 1]⟩, .int .i64 0] := by
  unfold Od.encR
  rw [if_pos (by decide), o7_enc]
theorem decR_none {l : List UInt8} (h : decO l = none) : decR l = .tuple #[Od.none.v, .int .i64 30] := by unfold decR; rw [h]
theorem decR_some {l : List UInt8} {o : Od} (h : decO l = some o) : decR l = .tuple #[o.v, .int .i64 0] := by unfold decR; rw [h]
theorem o7_dec : decR [14, 2, 1, 4, 200, 1] = .tuple #[.agg #[.int .i64 7, .int .i64 1, .int .i64 (-1), .int .i64 2, .int .i64 100], .int .i64 0] := by
  rw [← o7_enc, decR_some (enc_decO (by decide))]; rfl
theorem dec_more {o : Od} (hm : o.may = true) {b : UInt8} {l : List UInt8} : decO (o.enc ++ b :: l) = none := by
  rcases h : decO (o.enc ++ b :: l) with _ | p
  · rfl
  · obtain ⟨h1, h2⟩ := decO_iff.1 h
    have := (enc_apart (may_ints hm) (may_ints h2) (a := b :: l) (b := []) (by rw [h1]; simp)).2
    cases this
theorem o7_dec0 : decR [14, 2, 1, 4, 200, 1, 0] = .tuple #[.agg #[.int .i64 0, .int .i64 0, .int .i64 0, .int .i64 0, .int .i64 0], .int .i64 30] := by
  rw [show ([14, 2, 1, 4, 200, 1, 0] : List UInt8) = (Od.mk 7 1 (-1) 2 100).enc ++ [0] by rw [o7_enc]; rfl, decR_none (dec_more (by decide))]; rfl
set_option maxRecDepth 100000 in
set_option maxHeartbeats 4000000 in
theorem works_any (w : World) (hA : Asked w) : Calls Tryd.prog 13 #[] w (NumPost (.bool true) w) := by
  have H1 := Lib.hid (fun X hX => encode_any ⟨7, 1, -1, 2, 100⟩ X hX (by intro n hn; simp [Od.l] at hn; omega))
  rw [o7_encR] at H1
  have H2 := Lib.hid (fun X hX => decode_any ⟨#[14, 2, 1, 4, 200, 1]⟩ X hX (by decide))
  rw [show bytesOf ⟨#[14, 2, 1, 4, 200, 1]⟩ = [14, 2, 1, 4, 200, 1] from rfl, o7_dec] at H2
  have H3 := Lib.hid (fun X hX => decode_any ⟨#[14, 2, 1, 4, 200, 1, 0]⟩ X hX (by decide))
  rw [show bytesOf ⟨#[14, 2, 1, 4, 200, 1, 0]⟩ = [14, 2, 1, 4, 200, 1, 0] from rfl, o7_dec0] at H3
  have H4 := Lib.hid (fun X hX => check_any ⟨0, 0, 0, 1, 0⟩ X hX)
  rw [show (Od.mk 0 0 0 1 0).err = 2 from rfl] at H4
  simp only [Od.v] at *
  have hbz : Below w.heap.size w w := Below.refl _ _
  have B0 := Box5.new w (.int .i64 7) (.int .i64 1) (.int .i64 (-1)) (.int .i64 2) (.int .i64 100) 23
  have hbA : Below w.heap.size w (w.alloc (.cells #[.int .i64 7, .int .i64 1, .int .i64 (-1), .int .i64 2, .int .i64 100] 23)) := hbz.alloc (Nat.le_refl _) _
  have hA0 := hA.keep hbA
  go_enter Tryd.func13, Tryd.ntmps13
  go_wp2_with fail
  refine (H1.out _ hA0).mono ?_
  rintro e w1 ⟨rfl, hb1⟩
  have B1 := B0.later hb1
  have hbz := hbA.trans (hb1.mono hbA.size)
  have hA1 := hA.keep hbz
  clear hb1 hA0
  obtain ⟨x0, x1, x2, x3, x4, xf, xs⟩ := id B1
  go_wp2_with fail
  refine (H2.out _ hA1).mono ?_
  rintro e w2 ⟨rfl, hb2⟩
  clear x0 x1 x2 x3 x4 xf xs
  have B2 := B1.later hb2
  have hby := hbz.trans (hb2.mono hbz.size)
  clear hb2 hbz hA1
  obtain ⟨x0, x1, x2, x3, x4, xf, xs⟩ := id B2
  have C2 := Box5.new w2 (.int .i64 7) (.int .i64 1) (.int .i64 (-1)) (.int .i64 2) (.int .i64 100) 23
  have hbz := hby.alloc hby.size (.cells #[.int .i64 7, .int .i64 1, .int .i64 (-1), .int .i64 2, .int .i64 100] 23)
  have hA2 := hA.keep hbz
  go_wp2_with fail
  refine (H3.out _ hA2).mono ?_
  rintro e w3 ⟨rfl, hb3⟩
  clear x0 x1 x2 x3 x4 xf xs
  obtain ⟨x0, x1, x2, x3, x4, xf, xs⟩ := (B2.alloc _).later hb3
  obtain ⟨y0, y1, y2, y3, y4, yf, ys⟩ := C2.later hb3
  have hb4 := hbz.trans (hb3.mono hbz.size)
  clear hb3 hbz hby hA2
  have hb5 := hb4.alloc hb4.size (.cells #[.int .i64 0, .int .i64 0, .int .i64 0, .int .i64 0, .int .i64 0] 23)
  have hA5 := hA.keep hb5
  go_wp2_with fail
  refine (H4.out _ hA5).mono ?_
  rintro e w4 ⟨rfl, hb6⟩
  have hbz := hb5.trans (hb6.mono hb5.size)
  go_wp2_with fail
  go_ret
  exact ⟨rfl, by repeat' (first | (with_reducible exact hbz) | (with_reducible refine below_drewN ?_ _) | (with_reducible refine Below.alloc ?_ ?_ _) | (with_reducible refine Below.setCell ?_ ?_ _) | go_size)⟩
end Go.Proofs.YtncbjekmkihilaaDoor
