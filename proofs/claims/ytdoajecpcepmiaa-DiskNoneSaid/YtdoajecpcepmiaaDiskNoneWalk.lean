/-
  The walk of the law DiskNone: it returns true and writes nothing that was there.
-/
import Derived.Test.YtdoajecpcepmiaaDOpen
namespace Go.Proofs.Ytdoajecpcepmiaa.diskNoneW
open Go.RowKit
/-- The act's own block, whatever its kind is. -/
def BoxAt (W : World) (B : Nat) (x : ActV) : Prop := ∃ kk : Int, W.heap[B]? = some (.cells #[.int .u8 kk, .string x.nm, .string x.ot, .string x.dt, .int .i64 x.n, .slice x.ka x.kl x.kc] 34 (0, 0))
theorem BoxAt.below {W W' : World} {B : Nat} {x : ActV} (h : BoxAt W B x) (hb : Below W.heap.size W W') : BoxAt W' B x := by
  obtain ⟨kk, h⟩ := h
  exact ⟨kk, (hb.block B (lt_of_block h)).trans h⟩
theorem box_cells {W : World} {B : Nat} {c0 c1 c2 c3 c4 c5 : Value} {t : TypeId} (h : W.heap[B]? = some (.cells #[c0, c1, c2, c3, c4, c5] t (0, 0))) :
    W.cell? ⟨B, 0, none⟩ = some c0 ∧ W.cell? ⟨B, 1, none⟩ = some c1 ∧ W.cell? ⟨B, 2, none⟩ = some c2 ∧ W.cell? ⟨B, 3, none⟩ = some c3 ∧ W.cell? ⟨B, 4, none⟩ = some c4 ∧ W.cell? ⟨B, 5, none⟩ = some c5 ∧ W.frozen? ⟨B, 0, none⟩ = false := by
  refine ⟨?_, ?_, ?_, ?_, ?_, ?_, frozen_of_row W _ _ _ _ h⟩ <;> (rw [cell_of_row W _ _ _ _ _ h]; rfl)
theorem box_set {W : World} {B : Nat} {c0 c1 c2 c3 c4 c5 : Value} {t : TypeId} (h : W.heap[B]? = some (.cells #[c0, c1, c2, c3, c4, c5] t (0, 0))) (u : Value) : (W.setCell ⟨B, 0, none⟩ u).heap[B]? = some (.cells #[u, c1, c2, c3, c4, c5] t (0, 0)) :=
  heap_setCell_same _ B 0 _ _ _ h
theorem acts_one (x : ActV) (w : World) : Acts (w.alloc (.cells #[.int .u8 x.k, .string x.nm, .string x.ot, .string x.dt, .int .i64 x.n, .slice x.ka x.kl x.kc] 34)) (.slice (some ⟨w.heap.size, 0, none⟩) 1 1) [x] := by
  refine ⟨_, 1, rfl, Nat.le_refl 1, by unfold maxLen; decide, fun _ => ⟨w.heap.size, 0, rfl, by simp, fun j hj => ?_⟩⟩
  obtain rfl : j = 0 := by simp at hj; exact hj
  obtain ⟨h0, h1, h2, h3, h4, h5, _⟩ := box_cells (heap_alloc_new w (.cells #[.int .u8 x.k, .string x.nm, .string x.ot, .string x.dt, .int .i64 x.n, .slice x.ka x.kl x.kc] 34))
  exact ⟨h0, h1, h2, h3, h4, h5⟩
def ObjOf (x : ActV) : Obj := .cells #[.int .u8 x.k, .string x.nm, .string x.ot, .string x.dt, .int .i64 x.n, .slice x.ka x.kl x.kc] 34
theorem great_one (x : ActV) (w : World) : Calls Try.prog 9 #[.slice (some ⟨w.heap.size + 1, 0, none⟩) 1 1] ((w.alloc (ObjOf x)).alloc (ObjOf x)) fun e w' => ∃ b, e = .returned (.bool b) ∧ Hid (Below w.heap.size w w' ∧ BoxAt w' w.heap.size x) := by
  have hb0 := below_alloc w (ObjOf x)
  have hx0 : BoxAt (w.alloc (ObjOf x)) w.heap.size x := ⟨x.k, heap_alloc_new w _⟩
  have hg := great_any (acts_one x (w.alloc (ObjOf x)))
  rw [show (w.alloc (ObjOf x)).heap.size = w.heap.size + 1 from by simp] at hg
  refine hg.mono ?_
  rintro e w1 ⟨b, rfl, _, hb1⟩
  have hb2 := (below_alloc (w.alloc (ObjOf x)) (ObjOf x)).trans (Below.mono hb1 (by simp))
  exact ⟨b, rfl, hb0.trans (hb2.mono hb0.size), hx0.below hb2⟩
set_option maxRecDepth 100000 in
set_option maxHeartbeats 1000000 in
theorem walk (x : ActV) (w : World) (_hx : ActAt w x) :
    Calls Try.prog 4 #[x.val] w fun e w' => e = .returned (.bool true) ∧ Below w.heap.size w w' := by
  have HG := Lib.hid (great_one x w)
  unfold ObjOf at HG
  unfold ActV.val
  obtain ⟨xk, nm, ot, dt, xn, ka, kl, kc⟩ := x
  dsimp only at HG ⊢
  go_enter Try.func4, Try.ntmps4
  go_wp2_with fail
  refine HG.out.mono ?_
  rintro e w1 ⟨b, rfl, H1⟩
  clear HG
  cases b
  case true =>
    go_wp2_with fail
    go_ret
    exact ⟨rfl, H1.out.1⟩
  case false =>
    go_wp2_with fail
    go_loopg [2, 3, 4, 5, 6, 7] 2 (fun kx s2 s3 s4 s5 s6 s7 wr => ∃ i : Nat, i ≤ 2 ∧ s3 = .int .i64 (i : Int) ∧ 2 - i ≤ kx ∧ s2 = .bool false ∧ Hid (Below w.heap.size w wr ∧ BoxAt wr w.heap.size ⟨xk, nm, ot, dt, xn, ka, kl, kc⟩))
    case atStart => exact ⟨0, by omega, rfl, by omega, rfl, H1⟩
    case round =>
      obtain ⟨i, hi, rfl, hkx, rfl, HR⟩ := hrel
      clear H1
      rcases (show i = 0 ∨ i = 1 ∨ i = 2 by omega) with rfl | rfl | rfl
      · have HN : Hid (∀ W : World, Foot (fun k => k = w.heap.size) wr W → NoneAt W (.pointer none)) := fun W _ => .inl rfl
        go_wp2_with fail
        generalize wr = wb at *
        go_loopg [2, 5] 12 (fun kx s2 s5 W => ∃ k : Nat, k ≤ 12 ∧ s5 = .int .i64 (k : Int) ∧ 12 - k ≤ kx ∧ s2 = .bool false ∧ Hid (Foot (fun k => k = w.heap.size) wb W ∧ BoxAt W w.heap.size ⟨xk, nm, ot, dt, xn, ka, kl, kc⟩))
        case atStart => exact ⟨0, by omega, rfl, by omega, rfl, Foot.refl _ _, HR.out.2⟩
        case round =>
          obtain ⟨k, hk, rfl, hkk, rfl, HK⟩ := hrel
          obtain ⟨kk, hbx⟩ := HK.out.2
          obtain ⟨b0, b1, b2, b3, b4, b5, bz⟩ := box_cells hbx
          have HST := Lib.hid (fun u => box_set hbx u)
          clear hbx
          by_cases hlt : k < 12
          · have hlk : (k : Int) < 12 := by omega
            go_wp2_with fail
            refine (does_none _ nm ot dt xn _ (HN.out _ (HK.out.1.trans (Foot.set (fun k => k = w.heap.size) _ _ _ rfl) fun _ _ e => e))).mono ?_
            rintro e w' ⟨rfl, hb⟩
            have HB := Lib.hid hb
            clear hb
            go_wp2_with fail
            go_roundg (12 - (k + 1))
            case measure => omega
            case rel => exact ⟨k + 1, by omega, by go_num, by omega, rfl, (HK.out.1.trans (Foot.set (fun k => k = w.heap.size) _ _ _ rfl) fun _ _ e => e).trans (below_foot HB.out) fun _ _ e => e, BoxAt.below ⟨_, HST.out _⟩ HB.out⟩
          · obtain rfl : k = 12 := by omega
            have HN1 := Lib.hid (HN.out _ HK.out.1)
            go_wp2_with fail
            refine (read_none nm HN1.out).mono ?_
            rintro e w2 ⟨rfl, hb2⟩
            have HN2 := Lib.hid (HN1.out.below hb2)
            have HB2 := Lib.hid hb2
            clear hb2
            go_wp2_with fail
            refine (names_none HN2.out).mono ?_
            rintro e w3 ⟨rfl, rfl⟩
            go_wp2_with fail
            refine (unsync_none HN2.out).mono ?_
            rintro e w3 ⟨rfl, rfl⟩
            go_wp2_with fail
            refine (size_none HN2.out).mono ?_
            rintro e w3 ⟨rfl, rfl⟩
            go_wp2_with fail
            refine (up_none HN2.out).mono ?_
            rintro e w3 ⟨rfl, rfl⟩
            go_wp2_with fail
            refine (starts_none HN2.out).mono ?_
            rintro e w3 ⟨rfl, rfl⟩
            go_wp2_with fail
            go_roundg (2 - (0 + 1))
            case measure => omega
            case rel =>
              have hbW : Below w.heap.size wb _ := HK.out.1.below fun k hk => ⟨Nat.lt_of_lt_of_le hk HR.out.1.size, fun e => by omega⟩
              have hbw := HR.out.1.trans hbW
              exact ⟨0 + 1, by omega, rfl, by omega, rfl, hbw.trans (HB2.out.mono hbw.size), HK.out.2.below HB2.out⟩
      · have hx2 : BoxAt (wr.alloc (.cells #[.int .i64 0, .slice none 0 0, .bool false, .int .i64 0, .int .i64 0, .nilFunc] 51)) w.heap.size ⟨xk, nm, ot, dt, xn, ka, kl, kc⟩ := HR.out.2.below (below_alloc _ _)
        have hne : wr.heap.size ≠ w.heap.size := by
          obtain ⟨kk, h⟩ := HR.out.2
          have := lt_of_block h
          omega
        have HN : Hid (∀ W : World, Foot (fun k => k = w.heap.size) (wr.alloc (.cells #[.int .i64 0, .slice none 0 0, .bool false, .int .i64 0, .int .i64 0, .nilFunc] 51)) W → NoneAt W (.pointer (some ⟨wr.heap.size, 0, none⟩))) := fun W hf => by
          refine .inr ⟨_, rfl, (hf.cell (p := ⟨wr.heap.size, 0, none⟩) (by simp) hne).trans ?_⟩
          rw [cell_of_row _ _ _ _ _ _ (heap_alloc_new wr _)]; rfl
        have HR2 : Hid (Below w.heap.size w (wr.alloc (.cells #[.int .i64 0, .slice none 0 0, .bool false, .int .i64 0, .int .i64 0, .nilFunc] 51)) ∧ BoxAt (wr.alloc (.cells #[.int .i64 0, .slice none 0 0, .bool false, .int .i64 0, .int .i64 0, .nilFunc] 51)) w.heap.size ⟨xk, nm, ot, dt, xn, ka, kl, kc⟩) := ⟨HR.out.1.alloc HR.out.1.size _, hx2⟩
        clear HR hx2 hne
        go_wp2_with fail
        generalize wr.alloc (.cells #[.int .i64 0, .slice none 0 0, .bool false, .int .i64 0, .int .i64 0, .nilFunc] 51) = wb at *
        have HR := HR2
        clear HR2
        go_loopg [2, 5] 12 (fun kx s2 s5 W => ∃ k : Nat, k ≤ 12 ∧ s5 = .int .i64 (k : Int) ∧ 12 - k ≤ kx ∧ s2 = .bool false ∧ Hid (Foot (fun k => k = w.heap.size) wb W ∧ BoxAt W w.heap.size ⟨xk, nm, ot, dt, xn, ka, kl, kc⟩))
        case atStart => exact ⟨0, by omega, rfl, by omega, rfl, Foot.refl _ _, HR.out.2⟩
        case round =>
          obtain ⟨k, hk, rfl, hkk, rfl, HK⟩ := hrel
          obtain ⟨kk, hbx⟩ := HK.out.2
          obtain ⟨b0, b1, b2, b3, b4, b5, bz⟩ := box_cells hbx
          have HST := Lib.hid (fun u => box_set hbx u)
          clear hbx
          by_cases hlt : k < 12
          · have hlk : (k : Int) < 12 := by omega
            go_wp2_with fail
            refine (does_none _ nm ot dt xn _ (HN.out _ (HK.out.1.trans (Foot.set (fun k => k = w.heap.size) _ _ _ rfl) fun _ _ e => e))).mono ?_
            rintro e w' ⟨rfl, hb⟩
            have HB := Lib.hid hb
            clear hb
            go_wp2_with fail
            go_roundg (12 - (k + 1))
            case measure => omega
            case rel => exact ⟨k + 1, by omega, by go_num, by omega, rfl, (HK.out.1.trans (Foot.set (fun k => k = w.heap.size) _ _ _ rfl) fun _ _ e => e).trans (below_foot HB.out) fun _ _ e => e, BoxAt.below ⟨_, HST.out _⟩ HB.out⟩
          · obtain rfl : k = 12 := by omega
            have HN1 := Lib.hid (HN.out _ HK.out.1)
            go_wp2_with fail
            refine (read_none nm HN1.out).mono ?_
            rintro e w2 ⟨rfl, hb2⟩
            have HN2 := Lib.hid (HN1.out.below hb2)
            have HB2 := Lib.hid hb2
            clear hb2
            go_wp2_with fail
            refine (names_none HN2.out).mono ?_
            rintro e w3 ⟨rfl, rfl⟩
            go_wp2_with fail
            refine (unsync_none HN2.out).mono ?_
            rintro e w3 ⟨rfl, rfl⟩
            go_wp2_with fail
            refine (size_none HN2.out).mono ?_
            rintro e w3 ⟨rfl, rfl⟩
            go_wp2_with fail
            refine (up_none HN2.out).mono ?_
            rintro e w3 ⟨rfl, rfl⟩
            go_wp2_with fail
            refine (starts_none HN2.out).mono ?_
            rintro e w3 ⟨rfl, rfl⟩
            go_wp2_with fail
            go_roundg (2 - (1 + 1))
            case measure => omega
            case rel =>
              have hbW : Below w.heap.size wb _ := HK.out.1.below fun k hk => ⟨Nat.lt_of_lt_of_le hk HR.out.1.size, fun e => by omega⟩
              have hbw := HR.out.1.trans hbW
              exact ⟨1 + 1, by omega, rfl, by omega, rfl, hbw.trans (HB2.out.mono hbw.size), HK.out.2.below HB2.out⟩
      · go_wp2_with fail
        refine (works_any _).mono ?_
        rintro e w9 ⟨rfl, hb9⟩
        go_wp2_with fail
        go_ret
        exact ⟨rfl, HR.out.1.trans (hb9.mono HR.out.1.size)⟩
end Go.Proofs.Ytdoajecpcepmiaa.diskNoneW
