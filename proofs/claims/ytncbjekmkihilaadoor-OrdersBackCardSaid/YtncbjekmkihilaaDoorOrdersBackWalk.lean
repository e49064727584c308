/-
  The walk of the law OrdersBack: it returns true and writes nothing that was there.
-/
import Derived.Test.YtncbjekmkihilaaDoorOWorks
namespace Go.Proofs.YtncbjekmkihilaaDoor.ordersBackW
open Go.RowKit Go.Sort
theorem bytes_mk (l : List UInt8) : bytesOf ⟨l.toArray⟩ = l := by simp [bytesOf]
theorem mk_bytes (s : ByteArray) : (⟨(bytesOf s).toArray⟩ : ByteArray) = s := by simp [bytesOf]
theorem encR_yes {o : Od} (h : o.may = true) : o.encR = .tuple #[.string ⟨o.enc.toArray⟩, .int .i64 0] := by unfold Od.encR; rw [if_pos h]
theorem encR_no {o : Od} (h : o.may = false) : o.encR = .tuple #[.string ⟨#[]⟩, .int .i64 2] := by unfold Od.encR; rw [h]; rfl
set_option maxRecDepth 100000 in
set_option maxHeartbeats 8000000 in
theorem walk (o : Od) (s : ByteArray) (w : World) (hA : Asked w) (hi : o.ints) (hs : s.size ≤ maxLen) : Calls Tryd.prog 5 #[o.v, .string s] w fun e w' => e = .returned (.bool true) ∧ Below w.heap.size w w' := by
  have h1 := fun X hX => encode_any o X hX hi
  have h2 := fun X hX => check_any o X hX
  have h3 := fun X hX => decode_any s X hX hs
  have H5 := Lib.hid works_any
  have HD : (decR (bytesOf s) = .tuple #[Od.none.v, .int .i64 30]) ∨ ∃ q : Od, decR (bytesOf s) = .tuple #[q.v, .int .i64 0] ∧ q.ints ∧ q.encR = .tuple #[.string s, .int .i64 0] := by
    rcases hd : decO (bytesOf s) with _ | q
    · exact .inl (decR_none hd)
    · obtain ⟨e1, e2⟩ := decO_iff.1 hd
      exact .inr ⟨q, decR_some hd, may_ints e2, by rw [encR_yes e2, ← e1, mk_bytes]⟩
  have HC : (o.encR = .tuple #[.string ⟨#[]⟩, .int .i64 2] ∧ o.err = 2) ∨ ∃ S : ByteArray, o.encR = .tuple #[.string S, .int .i64 0] ∧ o.err = 0 ∧ ∀ X, Asked X → Calls Tryd.prog 14 #[.string S] X (NumPost (.tuple #[o.v, .int .i64 0]) X) := by
    rcases hm : o.may with _ | _
    · exact .inl ⟨encR_no hm, by unfold Od.err; rw [hm]; rfl⟩
    · refine .inr ⟨_, encR_yes hm, by unfold Od.err; rw [hm]; rfl, fun X hX => ?_⟩
      have h := decode_any ⟨o.enc.toArray⟩ X hX (by have := (enc_len hi).2; show o.enc.toArray.size ≤ _; rw [List.size_toArray]; unfold maxLen; omega)
      rwa [bytes_mk, decR_some (enc_decO hm)] at h
  clear hi hs
  obtain ⟨a, b, c, d, f⟩ := o
  have B0 := Box5.new w (.int .i64 a) (.int .i64 b) (.int .i64 c) (.int .i64 d) (.int .i64 f) 23
  have hbA : Below w.heap.size w (w.alloc (.cells #[.int .i64 a, .int .i64 b, .int .i64 c, .int .i64 d, .int .i64 f] 23)) := (Below.refl _ _).alloc (Nat.le_refl _) _
  have hA0 := hA.keep hbA
  simp only [Od.v] at *
  rcases HC with ⟨e1, e2⟩ | ⟨S, e1, e2, h4⟩
  · rw [e1] at h1; rw [e2] at h2
    have H1 := Lib.hid h1
    have H2 := Lib.hid h2
    clear h1 h2 e1 e2
    go_enter Tryd.func5, Tryd.ntmps5
    go_wp2_with fail
    refine (H1.out _ hA0).mono ?_
    rintro e w1 ⟨rfl, hb1⟩
    have B1 := B0.later hb1
    have hbz := hbA.trans (hb1.mono hbA.size)
    have hA1 := hA.keep hbz
    clear hb1 hA0 H1 hbA B0
    obtain ⟨x0, x1, x2, x3, x4, xf, xs⟩ := id B1
    go_wp2_with fail
    refine (H2.out _ hA1).mono ?_
    rintro e w2 ⟨rfl, hb2⟩
    clear x0 x1 x2 x3 x4 xf xs
    have B2 := B1.later hb2
    have hby := hbz.trans (hb2.mono hbz.size)
    have hA2 := hA.keep hby
    clear hb2 hbz hA1 H2 B1
    obtain ⟨x0, x1, x2, x3, x4, xf, xs⟩ := id B2
    go_wp2_with fail
    rcases HD with e3 | ⟨q, e3, hq, e4⟩
    · rw [e3] at h3
      have H3 := Lib.hid h3
      clear h3 e3
      refine (H3.out _ hA2).mono ?_
      rintro e w4 ⟨rfl, hb4⟩
      have hbx := hby.trans (hb4.mono hby.size)
      have hbz := hbx.alloc hbx.size (.cells #[.int .i64 0, .int .i64 0, .int .i64 0, .int .i64 0, .int .i64 0] 23)
      have hA4 := hA.keep hbz
      clear hb4 H3 hby hbx
      simp only [Od.none]
      go_wp2_with fail
      refine (H5.out _ hA4).mono ?_
      rintro e w5 ⟨rfl, hb5⟩
      have hbz := hbz.trans (hb5.mono hbz.size)
      clear hb5
      go_wp2_with fail
      go_ret
      exact ⟨rfl, by repeat' (first | (with_reducible exact hbz) | (with_reducible refine below_drewN ?_ _) | (with_reducible refine Below.alloc ?_ ?_ _) | (with_reducible refine Below.setCell ?_ ?_ _) | go_size)⟩
    · have h6 := fun X hX => encode_any q X hX hq
      rw [e3] at h3
      rw [e4] at h6
      clear e3 e4 hq
      obtain ⟨g, h, i, j, k⟩ := q
      simp only [Od.v] at h3 h6
      have H3 := Lib.hid h3
      have H6 := Lib.hid h6
      clear h3 h6
      refine (H3.out _ hA2).mono ?_
      rintro e w4 ⟨rfl, hb4⟩
      have hbx := hby.trans (hb4.mono hby.size)
      have hbz := hbx.alloc hbx.size (.cells #[.int .i64 g, .int .i64 h, .int .i64 i, .int .i64 j, .int .i64 k] 23)
      have hA4 := hA.keep hbz
      clear hb4 H3 hby hbx
      go_wp2_with fail
      refine (H6.out _ hA4).mono ?_
      rintro e w5 ⟨rfl, hb5⟩
      have hby := hbz.trans (hb5.mono hbz.size)
      have hA5 := hA.keep hby
      clear hb5 hbz
      go_wp2_with fail
      refine (H5.out _ hA5).mono ?_
      rintro e w6 ⟨rfl, hb6⟩
      have hbz := hby.trans (hb6.mono hby.size)
      clear hb6
      go_wp2_with fail
      go_ret
      exact ⟨rfl, by repeat' (first | (with_reducible exact hbz) | (with_reducible refine below_drewN ?_ _) | (with_reducible refine Below.alloc ?_ ?_ _) | (with_reducible refine Below.setCell ?_ ?_ _) | go_size)⟩
  · rw [e1] at h1; rw [e2] at h2
    have H4 := Lib.hid h4
    clear h4
    have H1 := Lib.hid h1
    have H2 := Lib.hid h2
    clear h1 h2 e1 e2
    go_enter Tryd.func5, Tryd.ntmps5
    go_wp2_with fail
    refine (H1.out _ hA0).mono ?_
    rintro e w1 ⟨rfl, hb1⟩
    have B1 := B0.later hb1
    have hbz := hbA.trans (hb1.mono hbA.size)
    have hA1 := hA.keep hbz
    clear hb1 hA0 H1 hbA B0
    obtain ⟨x0, x1, x2, x3, x4, xf, xs⟩ := id B1
    go_wp2_with fail
    refine (H2.out _ hA1).mono ?_
    rintro e w2 ⟨rfl, hb2⟩
    clear x0 x1 x2 x3 x4 xf xs
    have B2 := B1.later hb2
    have hby := hbz.trans (hb2.mono hbz.size)
    have hA2 := hA.keep hby
    clear hb2 hbz hA1 H2 B1
    obtain ⟨x0, x1, x2, x3, x4, xf, xs⟩ := id B2
    go_wp2_with fail
    refine (H4.out _ hA2).mono ?_
    rintro e w3 ⟨rfl, hb3⟩
    clear x0 x1 x2 x3 x4 xf xs
    have B3 := B2.later hb3
    have hbx := hby.trans (hb3.mono hby.size)
    have hby := hbx.alloc hbx.size (.cells #[.int .i64 a, .int .i64 b, .int .i64 c, .int .i64 d, .int .i64 f] 23)
    have hA2 := hA.keep hby
    clear hb3 H4 B2
    obtain ⟨x0, x1, x2, x3, x4, xf, xs⟩ := id B3
    go_wp2_with fail
    rcases HD with e3 | ⟨q, e3, hq, e4⟩
    · rw [e3] at h3
      have H3 := Lib.hid h3
      clear h3 e3
      refine (H3.out _ hA2).mono ?_
      rintro e w4 ⟨rfl, hb4⟩
      have hbx := hby.trans (hb4.mono hby.size)
      have hbz := hbx.alloc hbx.size (.cells #[.int .i64 0, .int .i64 0, .int .i64 0, .int .i64 0, .int .i64 0] 23)
      have hA4 := hA.keep hbz
      clear hb4 H3 hby hbx
      simp only [Od.none]
      go_wp2_with fail
      refine (H5.out _ hA4).mono ?_
      rintro e w5 ⟨rfl, hb5⟩
      have hbz := hbz.trans (hb5.mono hbz.size)
      clear hb5
      go_wp2_with fail
      go_ret
      exact ⟨rfl, by repeat' (first | (with_reducible exact hbz) | (with_reducible refine below_drewN ?_ _) | (with_reducible refine Below.alloc ?_ ?_ _) | (with_reducible refine Below.setCell ?_ ?_ _) | go_size)⟩
    · have h6 := fun X hX => encode_any q X hX hq
      rw [e3] at h3
      rw [e4] at h6
      clear e3 e4 hq
      obtain ⟨g, h, i, j, k⟩ := q
      simp only [Od.v] at h3 h6
      have H3 := Lib.hid h3
      have H6 := Lib.hid h6
      clear h3 h6
      refine (H3.out _ hA2).mono ?_
      rintro e w4 ⟨rfl, hb4⟩
      have hbx := hby.trans (hb4.mono hby.size)
      have hbz := hbx.alloc hbx.size (.cells #[.int .i64 g, .int .i64 h, .int .i64 i, .int .i64 j, .int .i64 k] 23)
      have hA4 := hA.keep hbz
      clear hb4 H3 hby hbx
      go_wp2_with fail
      refine (H6.out _ hA4).mono ?_
      rintro e w5 ⟨rfl, hb5⟩
      have hby := hbz.trans (hb5.mono hbz.size)
      have hA5 := hA.keep hby
      clear hb5 hbz
      go_wp2_with fail
      refine (H5.out _ hA5).mono ?_
      rintro e w6 ⟨rfl, hb6⟩
      have hbz := hby.trans (hb6.mono hby.size)
      clear hb6
      go_wp2_with fail
      go_ret
      exact ⟨rfl, by repeat' (first | (with_reducible exact hbz) | (with_reducible refine below_drewN ?_ _) | (with_reducible refine Below.alloc ?_ ?_ _) | (with_reducible refine Below.setCell ?_ ?_ _) | go_size)⟩
end Go.Proofs.YtncbjekmkihilaaDoor.ordersBackW
