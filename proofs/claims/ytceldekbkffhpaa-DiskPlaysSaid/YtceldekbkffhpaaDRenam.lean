/-
  Contract of Rename: the call.
-/
import Derived.Test.YtceldekbkffhpaaDRename
import Derived.Test.YtceldekbkffhpaaDTrunc
namespace Go.Proofs.Ytceldekbkffhpaa
open Go.RowKit
section
variable {w w' : World} {d : Nat} {D : Dsk.Dk} {S : Nat → Prop}
theorem three_new (w : World) (u v x : Value) (t t' t2 : TypeId) : ((((w.alloc (.cells #[u] t)).alloc (.cells #[v] t')).alloc (.cells #[x] t2)).cell? ⟨w.heap.size, 0, none⟩ = some u ∧ (((w.alloc (.cells #[u] t)).alloc (.cells #[v] t')).alloc (.cells #[x] t2)).cell? ⟨w.heap.size + 1, 0, none⟩ = some v ∧ (((w.alloc (.cells #[u] t)).alloc (.cells #[v] t')).alloc (.cells #[x] t2)).cell? ⟨w.heap.size + 2, 0, none⟩ = some x) ∧
    Below w.heap.size w (((w.alloc (.cells #[u] t)).alloc (.cells #[v] t')).alloc (.cells #[x] t2)) ∧ (((w.alloc (.cells #[u] t)).alloc (.cells #[v] t')).alloc (.cells #[x] t2)).heap.size = w.heap.size + 3 := by
  obtain ⟨n1, n2, hb, hsz⟩ := two_new w u v t t'
  have hx := cell_of_one (heap_alloc_new ((w.alloc (.cells #[u] t)).alloc (.cells #[v] t')) (.cells #[x] t2))
  rw [hsz] at hx
  refine ⟨⟨?_, ?_, hx⟩, hb.alloc (by rw [hsz]; omega) _, by simp⟩
  · rw [← n1]; exact World.cell?_of_block (Below.heap_alloc _ _ _ (by show w.heap.size < _; rw [hsz]; omega))
  · rw [← n2]; exact World.cell?_of_block (Below.heap_alloc _ _ _ (by show w.heap.size + 1 < _; rw [hsz]; omega))
set_option maxRecDepth 100000 in
theorem rename_any (from_ nw : ByteArray) (h : IsDisk w d D S) : Calls Try.prog 28 #[.pointer (some ⟨d, 0, none⟩), .string from_, .string nw] w (AnyRet (Did w d S (Dsk.rename D from_ nw))) := by
  obtain ⟨T, v, fs, left, fv, h⟩ := h
  obtain ⟨⟨n1, n2, n3⟩, hb, hsz⟩ := three_new w (.pointer (some ⟨d, 0, none⟩)) (.string from_) (.string nw) 24 9 9
  have HA := Lib.hid (ask_at from_ 58 #[.pointer (some ⟨w.heap.size + 2, 0, none⟩), .pointer (some ⟨w.heap.size, 0, none⟩), .pointer (some ⟨w.heap.size + 1, 0, none⟩)] (renWhat D from_ nw) (fun _ _ => (enters_of Try.func58 (by kernel_rfl) rfl) _ _) (h.below hb) (fun gr c w1 hv hdn hb1 h1 hp hin =>
    rename_cl (bt := w.heap.size + 2) (bd := w.heap.size) (bf := w.heap.size + 1) h1 hp ((hb1.cell (p := ⟨w.heap.size + 2, 0, none⟩) (by rw [hsz]; simp)).trans n3) ((hb1.cell (p := ⟨w.heap.size, 0, none⟩) (by rw [hsz]; simp)).trans n1) ((hb1.cell (p := ⟨w.heap.size + 1, 0, none⟩) (by rw [hsz]; simp)).trans n2) (by
      have h1 := h.head.lt
      have h2 : gr < w.heap.size := owns_lt h.files.row (by rw [hv]; rfl)
      have h3 := hb1.size
      rw [hsz] at h3
      intro k hk
      rcases hk with rfl | rfl | rfl <;> exact ⟨by omega, by omega, by omega⟩) (by
      obtain ⟨_, hq⟩ := Dsk.place_mem' h1.good.rise hin
      have e1 := h1.at_ hp
      rw [List.getElem?_eq_getElem (by rw [← h1.len]; exact hp)] at e1
      injection e1 with e1
      rw [← e1]; exact hq) rfl))
  have HB := Lib.hid hb
  clear h n1 n2 n3 hb hsz
  go_enter Try.func28, Try.ntmps28
  go_wp2_with fail
  refine HA.out.mono ?_
  rintro e w' ⟨r, rfl, hq⟩
  have HQ := Lib.hid hq
  clear hq
  go_wp2_with fail
  go_ret
  exact ⟨r, rfl, HQ.out.from_ HB.out⟩
end
end Go.Proofs.Ytceldekbkffhpaa
