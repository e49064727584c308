/-
  The walk of the law OrdersParts: it returns true and writes nothing that was there.
-/
import Derived.Test.YtncbjekmkihilaaDoorOWorks
namespace Go.Proofs.YtncbjekmkihilaaDoor.ordersPartsW
open Go.RowKit Go.Sort
def okP (o : Od) (w : World) : Prop := Calls Tryd.prog 7 #[o.v] w fun e w' => e = .returned (.bool true) ∧ Below w.heap.size w w'
theorem bytes_mk (l : List UInt8) : bytesOf ⟨l.toArray⟩ = l := by simp [bytesOf]
set_option maxRecDepth 100000 in
set_option maxHeartbeats 4000000 in
theorem walk_no (o : Od) (w : World) (hA : Asked w) (h1 : ∀ X, Asked X → Calls Tryd.prog 9 #[o.v] X (NumPost (.tuple #[.string ⟨#[]⟩, .int .i64 2]) X)) : okP o w := by
  unfold okP
  obtain ⟨a, b, c, d, f⟩ := o
  simp only [Od.v] at *
  have H1 := Lib.hid h1
  have H5 := Lib.hid works_any
  clear h1
  have hbA : Below w.heap.size w (w.alloc (.cells #[.int .i64 a, .int .i64 b, .int .i64 c, .int .i64 d, .int .i64 f] 23)) := (Below.refl _ _).alloc (Nat.le_refl _) _
  have hA0 := hA.keep hbA
  go_enter Tryd.func7, Tryd.ntmps7
  go_wp2_with fail
  refine (H1.out _ hA0).mono ?_
  rintro e w1 ⟨rfl, hb1⟩
  have hby := hbA.trans (hb1.mono hbA.size)
  have hA1 := hA.keep hby
  clear hb1 hA0 H1 hbA
  go_wp2_with fail
  refine (H5.out _ hA1).mono ?_
  rintro e w2 ⟨rfl, hb2⟩
  have hbz := hby.trans (hb2.mono hby.size)
  clear hb2
  go_wp2_with fail
  go_ret
  exact ⟨rfl, by repeat' (first | (with_reducible exact hbz) | (with_reducible refine below_drewN ?_ _) | (with_reducible refine Below.drew ?_) | (with_reducible refine Below.alloc ?_ ?_ _) | (with_reducible refine Below.setCell ?_ ?_ _) | go_size)⟩
set_option maxRecDepth 100000 in
set_option maxHeartbeats 4000000 in
theorem walk_yes (o : Od) (S : ByteArray) (p1 p2 p3 p4 : Nat) (w : World) (hA : Asked w) (h1 : ∀ X, Asked X → Calls Tryd.prog 9 #[o.v] X (NumPost (.tuple #[.string S, .int .i64 0]) X)) (hS : S.size ≤ maxLen)
    (g0 : got (bytesOf S) 0 = some (o.id, p1)) (g1 : got (bytesOf S) p1 = some (o.st, p2)) (g2 : got (bytesOf S) p2 = some (o.ex, p3)) (g3 : got (bytesOf S) p3 = some (o.ki, p4)) (g4 : got (bytesOf S) p4 = some (o.ar, S.size)) : okP o w := by
  unfold okP
  have k0 := fun X => get_any S 0 X hS
  have k1 := fun X => get_any S p1 X hS
  have k2 := fun X => get_any S p2 X hS
  have k3 := fun X => get_any S p3 X hS
  have k4 := fun X => get_any S p4 X hS
  rw [g0] at k0
  rw [g1] at k1
  rw [g2] at k2
  rw [g3] at k3
  rw [g4] at k4
  clear g0 g1 g2 g3 g4
  unfold maxLen at hS
  obtain ⟨a, b, c, d, f⟩ := o
  simp only [Od.v] at *
  have H1 := Lib.hid h1
  have H5 := Lib.hid works_any
  have K0 := Lib.hid k0
  have K1 := Lib.hid k1
  have K2 := Lib.hid k2
  have K3 := Lib.hid k3
  have K4 := Lib.hid k4
  clear h1 k0 k1 k2 k3 k4
  have B0 := Box5.new w (.int .i64 a) (.int .i64 b) (.int .i64 c) (.int .i64 d) (.int .i64 f) 23
  have hbA : Below w.heap.size w (w.alloc (.cells #[.int .i64 a, .int .i64 b, .int .i64 c, .int .i64 d, .int .i64 f] 23)) := (Below.refl _ _).alloc (Nat.le_refl _) _
  have hA0 := hA.keep hbA
  go_enter Tryd.func7, Tryd.ntmps7
  go_wp2_with fail
  refine (H1.out _ hA0).mono ?_
  rintro e w1 ⟨rfl, hb1⟩
  obtain ⟨x0, x1, x2, x3, x4, xf, xs⟩ := B0.later hb1
  have hby := hbA.trans (hb1.mono hbA.size)
  clear hb1 hA0 H1 hbA B0
  go_wp2_with fail
  refine wp_loop_rounds 6 ?_
  rw [rounds_succ]
  go_wp2_with fail
  refine (K0.out _).mono ?_
  rintro e u ⟨hu, he⟩
  subst hu
  simp only [getR] at he
  subst he
  go_wp2_with fail
  rw [rounds_succ]
  go_wp2_with fail
  refine (K1.out _).mono ?_
  rintro e u ⟨hu, he⟩
  subst hu
  simp only [getR] at he
  subst he
  go_wp2_with fail
  rw [rounds_succ]
  go_wp2_with fail
  refine (K2.out _).mono ?_
  rintro e u ⟨hu, he⟩
  subst hu
  simp only [getR] at he
  subst he
  go_wp2_with fail
  rw [rounds_succ]
  go_wp2_with fail
  refine (K3.out _).mono ?_
  rintro e u ⟨hu, he⟩
  subst hu
  simp only [getR] at he
  subst he
  go_wp2_with fail
  rw [rounds_succ]
  go_wp2_with fail
  refine (K4.out _).mono ?_
  rintro e u ⟨hu, he⟩
  subst hu
  simp only [getR] at he
  subst he
  go_wp2_with fail
  rw [rounds_succ]
  go_wp2_with fail
  refine (H5.out _ (hA.keep (by repeat' (first | (with_reducible exact hby) | (with_reducible refine below_drewN ?_ _) | (with_reducible refine Below.drew ?_) | (with_reducible refine Below.alloc ?_ ?_ _) | (with_reducible refine Below.setCell ?_ ?_ _) | go_size)))).mono ?_
  rintro e w2 ⟨rfl, hb2⟩
  have hbz : Below w.heap.size w w2 := Below.trans (by repeat' (first | (with_reducible exact hby) | (with_reducible refine below_drewN ?_ _) | (with_reducible refine Below.drew ?_) | (with_reducible refine Below.alloc ?_ ?_ _) | (with_reducible refine Below.setCell ?_ ?_ _) | go_size)) (hb2.mono (by go_size))
  clear hb2
  go_wp2_with fail
  go_ret
  exact ⟨rfl, by repeat' (first | (with_reducible exact hbz) | (with_reducible refine below_drewN ?_ _) | (with_reducible refine Below.drew ?_) | (with_reducible refine Below.alloc ?_ ?_ _) | (with_reducible refine Below.setCell ?_ ?_ _) | go_size)⟩
theorem walk (o : Od) (w : World) (hA : Asked w) (hi : o.ints) : okP o w := by
  rcases ho : o.may with _ | _
  · exact walk_no o w hA (fun X hX => by
      have h := encode_any o X hX hi
      rwa [show o.encR = .tuple #[.string ⟨#[]⟩, .int .i64 2] by unfold Od.encR; rw [ho]; rfl] at h)
  · have hl := enc_len hi
    obtain ⟨g0, g1, g2, g3, g4⟩ := enc_got hi
    refine walk_yes o ⟨o.enc.toArray⟩ _ _ _ _ w hA (fun X hX => by
      have h := encode_any o X hX hi
      rwa [show o.encR = .tuple #[.string ⟨o.enc.toArray⟩, .int .i64 0] by unfold Od.encR; rw [if_pos ho]] at h) (by show o.enc.toArray.size ≤ _; rw [List.size_toArray]; unfold maxLen; omega)
      (by rw [bytes_mk]; exact g0) (by rw [bytes_mk]; exact g1) (by rw [bytes_mk]; exact g2) (by rw [bytes_mk]; exact g3) (by rw [bytes_mk, show (⟨o.enc.toArray⟩ : ByteArray).size = o.enc.length from (by show o.enc.toArray.size = _; rw [List.size_toArray])]; exact g4)
end Go.Proofs.YtncbjekmkihilaaDoor.ordersPartsW
