/-
  The contract of Less of package checks: it goes through the text from behind, by a range over a function.
-/
import Derived.RangeFuncNested
import Derived.RangeFuncBound
import Derived.RangeFuncCalls
import Derived.RangeFuncLeaves
import Derived.Shelf.Abstract
import Derived.Shelf.RegionOpen
import Derived.WalkKit
import Derived.OwnWalkIn
import Derived.TacticsInMore
import Derived.LoopNIn
import Derived.LoopIn
import Derived.Test.YtkhfalnlfcoiaaaCMore
namespace Go.Proofs.Ytkhfalnlfcoiaaa
open Go.RowKit Go.Shelf
open Crc
attribute [local go_sem] Oper.semAt_some
/-- What a round keeps: the cell that the iterator reads. -/
def KeptCell (b : Nat) (W W' : World) : Prop := W'.cell? ⟨b, 0, none⟩ = W.cell? ⟨b, 0, none⟩
theorem behind_step (s : ByteArray) (k : Nat) (h : k < s.size) : ((tx s).drop k).reverse = ((tx s).drop (k + 1)).reverse ++ [s[k]] := by
  rw [tx_drop s k h, List.reverse_cons]
set_option maxRecDepth 100000 in
set_option maxHeartbeats 1000000 in
theorem behind_in (F : Fence) (n : Nat) (hF : F.fn 22) (hro : F.round = none) (hn : 1 ≤ n) (l Bn : Nat) (s : ByteArray) (hs : s.size ≤ maxLen) (J Jx : List UInt8 → World → Prop)
    (hY : ∀ pre x W, J pre W → pre.length < s.size → YieldAt F (n - 1) Try.prog l #[.int .u8 x.toNat] W fun e W' =>
      (e = .returned (.bool true) ∧ J (pre ++ [x]) W' ∧ KeptCell Bn W W') ∨ (e = .returned (.bool false) ∧ Jx (pre ++ [x]) W'))
    (W : World) (hBn : W.cell? ⟨Bn, 0, none⟩ = some (.string s)) (h0 : J [] W) :
    CallsIn F n Try.prog 22 #[.func (.yield l) #[] #[], .pointer (some ⟨Bn, 0, none⟩)] W fun e W' => (∃ v, e = .returned v) ∧
      ((∃ ys, ys = (tx s).reverse ∧ J ys W') ∨ (∃ pre, True ∧ Jx pre W')) := by
  unfold maxLen at hs
  refine callsIn_of_wp Try.func22 rfl hF ?_ hro
  simp only [Try.ntmps22, List.size_toArray, List.length_cons, List.length_nil, Nat.reduceAdd, Nat.reduceSub, Array.replicate_succ, Array.replicate_zero, List.push_toArray, List.append_toArray, List.nil_append, List.cons_append]
  gi_wp2
  gi_loopw [3] (fun p wr => ∃ k : Nat, k ≤ s.size ∧ p = .int .i64 ((k : Int) - 1) ∧ wr.cell? ⟨Bn, 0, none⟩ = some (.string s) ∧ J ((tx s).drop k).reverse wr)
    (fun p _ => (intOf p + 1).toNat)
  case atStart =>
    exact ⟨s.size, Nat.le_refl _, rfl, hBn, by rw [List.drop_of_length_le (by rw [tx_len]; exact Nat.le_refl _)]; exact h0⟩
  case round =>
    obtain ⟨k, hk, rfl, hc, hJ⟩ := hrel
    cases k with
    | zero =>
      gi_wp2
      go_end0
      exact ⟨⟨_, rfl⟩, .inl ⟨_, by simp, hJ⟩⟩
    | succ k =>
      have HT := Lib.hid (behind_step s k (by omega))
      obtain ⟨fn, tmps, assign, body, hy, hR⟩ := hY _ s[k] wr hJ (by simp [tx_len]; omega)
      rw [show ((k + 1 : Nat) : Int) - 1 = (k : Int) by omega]
      gi_wp2
      refine hR.mono ?_
      rintro e W3 (⟨rfl, hJ3, hk3⟩ | ⟨rfl, hJx3⟩)
      · have hc3 : W3.cell? ⟨Bn, 0, none⟩ = some (.string s) := Eq.trans hk3 hc
        gi_wp2
        go_roundw
        case rel => exact ⟨k, by omega, by go_num, hc3, by rw [HT.out]; exact hJ3⟩
        case measure => simp [intOf]
      · gi_wp2
        refine bodyPost_ret (results_none rfl _ _ _) rfl ?_
        exact ⟨⟨_, rfl⟩, .inr ⟨_, trivial, hJx3⟩⟩
theorem behind_stops (F : Fence) (n : Nat) (hF : F.fn 22) (hro : F.round = none) (hn : 1 ≤ n) (Bn : Nat) (s : ByteArray) (hs : s.size ≤ maxLen) (w : World) (hBn : Bn < w.heap.size)
    (hc : w.cell? ⟨Bn, 0, none⟩ = some (.string s)) :
    SeqStopsK F n Try.prog 22 #[.pointer (some ⟨Bn, 0, none⟩)] (fun x : UInt8 => #[Value.int .u8 x.toNat]) (KeptCell Bn) (fun ys => ys = (tx s).reverse) (fun _ => True) s.size w := fun l J Jx W hW _ _ hY h0 =>
  behind_in F n hF hro hn l Bn s hs J Jx hY W ((hW.cell (p := ⟨Bn, 0, none⟩) hBn).trans hc) h0
theorem cell_box_l {W : World} {B : Nat} {v : Value} {t : TypeId} (h : W.heap[B]? = some (.cells #[v] t (0, 0))) : W.cell? ⟨B, 0, none⟩ = some v ∧ W.frozen? ⟨B, 0, none⟩ = false := by
  constructor <;> simp [World.cell?, World.frozen?, h]
theorem cell_new_l (W : World) (v : Value) (t : TypeId) : (W.alloc (.cells #[v] t)).cell? ⟨W.heap.size, 0, none⟩ = some v ∧ (W.alloc (.cells #[v] t)).frozen? ⟨W.heap.size, 0, none⟩ = false :=
  cell_box_l (World.alloc_heap_new W _)
theorem offs_back (r : Nat) (pre : List UInt8) (x : UInt8) : offs r (pre ++ [x]).reverse = off (offs r pre.reverse) x.toNat := by
  rw [List.reverse_append]; rfl
theorem cell_alloc_l {W : World} {a : Addr} {v : Value} (o : Obj) (h : W.cell? a = some v) : (W.alloc o).cell? a = some v := cell_kept h (World.grownBy_alloc W o none) (fun r e => by cases e)
theorem frozen_alloc_l {W : World} {a : Addr} {v : Value} (o : Obj) (h : W.cell? a = some v) (hf : W.frozen? a = false) : (W.alloc o).frozen? a = false := (frozen_kept h (World.grownBy_alloc W o none) (fun r e => by cases e)).trans hf
set_option maxHeartbeats 400000 in
theorem behind_made (s : ByteArray) (w : World) :
    Calls Try.prog 19 #[.string s] w fun e w' => e = .returned (.func (.func 22) #[] #[.pointer (some ⟨w.heap.size, 0, none⟩)]) ∧ w' = w.alloc (.cells #[.string s] 9) := by
  go_enter Try.func19, Try.ntmps19
  go_wp2
  go_ret
  exact ⟨rfl, rfl⟩
set_option maxRecDepth 100000 in
set_option maxHeartbeats 2000000 in
theorem less_any (n : Nat) (s : ByteArray) (w : World) (hn : n < 4294967296) (hs : s.size ≤ maxLen) :
    Calls Try.prog 15 #[.int .u32 n, .string s] w fun e w' => e = .returned (.int .u32 (less n (tx s) : Nat)) ∧ Below w.heap.size w w' := by
  have HF := Lib.hid (flip_bits hn)
  refine (callsIn_wide (n := 3)).1 ?_
  refine callsIn_of_wp_marks Try.func15 rfl trivial ?_ rfl
  simp only [Try.ntmps15, List.size_toArray, List.length_cons, List.length_nil, Nat.reduceAdd, Nat.reduceSub, Array.replicate_succ, Array.replicate_zero, List.push_toArray, List.append_toArray, List.nil_append, List.cons_append]
  gi_wp2_with (refine ⟨trivial, ?_⟩; gi_at_call 19; refine (callsIn_wide.2 (behind_made s _)).mono ?_; rintro e w' ⟨rfl, rfl⟩)
  have hs0 := cell_new_l w (.int .u32 (bits .xor .u32 IntKind.u32.max (n : Int))) 22
  have hb := cell_new_l (w.alloc (.cells #[.int .u32 (bits .xor .u32 IntKind.u32.max (n : Int))] 22)) (.string s) 9
  rw [World.size_alloc] at hb
  have hB0 : Below w.heap.size w ((w.alloc (.cells #[.int .u32 (bits .xor .u32 IntKind.u32.max (n : Int))] 22)).alloc (.cells #[.string s] 9)) := ((Below.refl _ w).alloc (Nat.le_refl _) _).alloc (by simp) _
  refine wpIn_rangeFunc_ownF rfl (by omega) (gf := 22) (lb := #[.pointer (some ⟨w.heap.size + 1, 0, none⟩)]) rfl trivial (enters_of Try.func22 (by kernel_rfl) rfl)
    (behind_stops Fence.wide _ trivial rfl (by omega) (w.heap.size + 1) s hs _ (by simp) hb.1) (fun h k => Eq.trans k h) (fun W l o o' hl h h1 h2 => (belowK_b (Nat.le_refl _) W l o o' hl h h1 h2).cell (p := ⟨w.heap.size + 1, 0, none⟩) (by simp)) (Below.refl _ _) (fun _ => rfl)
    (fun pre W => (W.cell? ⟨w.heap.size, 0, none⟩ = some (.int .u32 (offs (4294967295 - n) pre.reverse : Nat)) ∧ W.frozen? ⟨w.heap.size, 0, none⟩ = false) ∧ Below w.heap.size w W)
    (fun _ _ _ => False)
    (OwnFrom.and (Own.from (fun s A B row hs hg hr => ⟨cell_kept hs.1 hg hr, (frozen_kept hs.1 hg hr).trans hs.2⟩) _) (ownFrom_below (Nat.le_refl _) (by simp; omega)))
    (fun _ _ _ _ _ hs _ _ => hs)
    ⟨⟨(cell_alloc_l _ hs0.1).trans (by rw [HF.out]; rfl), frozen_alloc_l _ hs0.1 hs0.2⟩, hB0⟩
    (fun x => { tmps := #[.int .u32 n, .string s, undef, undef, .int .u32 0, .pointer (some ⟨w.heap.size, 0, none⟩), .int .u8 x.toNat, .int .u32 n, .int .u32 (bits .xor .u32 IntKind.u32.max (n : Int)), .string s, .func (.func 22) #[] #[.pointer (some ⟨w.heap.size + 1, 0, none⟩)], .int .u8 x.toNat, undef, undef, undef, undef, undef], defers := [] }) ?assign ?body ?done ?stop
  case assign =>
    intro l x W K hK
    gi_wp2
    exact hK
  case body =>
    rintro l pre x W ⟨⟨hc, hf⟩, hB⟩ _
    have hx := offs_lt (r := 4294967295 - n) (by omega) pre.reverse
    have HO := Lib.hid (offs_back (4294967295 - n) pre x)
    generalize offs (4294967295 - n) pre.reverse = r at hx hc HO ⊢
    gi_wp2_with (refine ⟨trivial, ?_⟩; gi_at_call 20; refine (CallsIn.inRound l (callsIn_wide.2 (goBack_any r x _ hx))).mono ?_; rintro e w' ⟨rfl, rfl⟩)
    refine ⟨KeepsOthers.setCell _ _ _, ?_, ⟨?_, by rw [World.frozen?_setCell]; exact hf⟩, hB.setCell (p := ⟨w.heap.size, 0, none⟩) (Nat.le_refl _) _⟩
    · exact World.cell?_setCell_other _ _ _ _ (fun h => by injection h; omega)
    · rw [HO.out]; exact World.cell?_setCell_same' _ _ _ (by rw [hc]; rfl)
  case done =>
    rintro D ys W hD rfl ⟨⟨hc, _⟩, hB⟩ hK
    rw [List.reverse_reverse] at hc
    have hx := offs_lt (r := 4294967295 - n) (by omega) (tx s)
    have HL := Lib.hid (show less n (tx s) = 4294967295 - offs (4294967295 - n) (tx s) from rfl)
    generalize offs (4294967295 - n) (tx s) = r at hx hc HL ⊢
    gi_wp2
    refine ⟨by simp, .inl ⟨_, _, rfl, run_takeDeferred hK, ?_⟩⟩
    have HE : Ending.returned (.int .u32 (bits .xor .u32 IntKind.u32.max (r : Int))) = Ending.returned (.int .u32 (less n (tx s) : Nat)) := ret_u32 (by rw [HL.out, flip_bits hx])
    refine ⟨_, results_tmp rfl _ _ _, ?_, hB.trans (belowK_b (w := w) (Nat.le_refl _) W D _ _ (by simp at hD; omega) hK rfl rfl)⟩
    exact HE
  case stop =>
    rintro D c pre W _ _ h _
    exact h.elim
end Go.Proofs.Ytkhfalnlfcoiaaa
