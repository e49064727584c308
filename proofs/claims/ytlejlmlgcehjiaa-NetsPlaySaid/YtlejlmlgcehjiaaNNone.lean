/-
  A net that is none.
-/
import Derived.Test.YtlejlmlgcehjiaaNFull
namespace Go.Proofs.Ytlejlmlgcehjiaa
open Go.RowKit
/-- None: a nil pointer, or a net that New did not make. -/
def NoneAt (w : World) (v : Value) : Prop := v = .pointer none ∨ ∃ b, v = .pointer (some ⟨b, 0, none⟩) ∧ w.heap[b]? = some (.cells #[.bool false, .slice none 0 0] 52 (0, 0))
section
variable {w w' : World} {v : Value}
theorem NoneAt.below (h : NoneAt w v) (hb : Below w.heap.size w w') : NoneAt w' v := by
  rcases h with rfl | ⟨b, rfl, h⟩
  · exact .inl rfl
  · exact .inr ⟨b, rfl, (hb.block b (lt_of_block h)).trans h⟩
theorem none_cells {b : Nat} (h : w.heap[b]? = some (.cells #[.bool false, .slice none 0 0] 52 (0, 0))) : w.cell? ⟨b, 0, none⟩ = some (.bool false) ∧ w.cell? ⟨b, 1, none⟩ = some (.slice none 0 0) := by
  constructor <;> (rw [cell_of_row w b _ _ _ _ h]; rfl)
theorem len_none (h : NoneAt w v) : Calls Try.prog 15 #[v] w fun e w' => e = .returned (.int .i64 0) ∧ w = w' := by
  rcases h with rfl | ⟨b, rfl, h⟩
  · go_enter Try.func15, Try.ntmps15
    go_wp2
    go_ret
    exact ⟨rfl, rfl⟩
  · obtain ⟨k0, k1⟩ := none_cells h
    clear h
    go_enter Try.func15, Try.ntmps15
    go_wp2
    go_ret
    exact ⟨rfl, rfl⟩
def FlagNone (w : World) (e : Ending) (w' : World) : Prop := e = .returned (.bool false) ∧ Hid (Below w.heap.size w w')
def TellNone (w : World) (e : Ending) (w' : World) : Prop := e = .returned (.tuple #[.agg (mcells Net.hd0 (.slice none 0 0)).toArray, .bool false]) ∧ Hid (Below w.heap.size w w')
set_option maxRecDepth 100000 in
theorem send_none (m : Array Value) (h : NoneAt w v) : Calls Try.prog 20 #[v, .agg m] w (FlagNone w) := by
  have hb := below_alloc1 w (.cells m 36)
  have HB := Lib.hid hb
  have h' := h.below hb
  clear h
  rcases h' with rfl | ⟨b, rfl, h⟩
  · clear hb
    go_enter Try.func20, Try.ntmps20
    go_wp2
    go_ret
    exact ⟨rfl, HB⟩
  · obtain ⟨k0, k1⟩ := none_cells h
    clear h hb
    go_enter Try.func20, Try.ntmps20
    go_wp2
    go_ret
    exact ⟨rfl, HB⟩
set_option maxRecDepth 100000 in
theorem at_none (i : Int) (cl : Value) (h : NoneAt w v) : Calls Try.prog 32 #[v, .int .i64 i, cl] w (TellNone w) := by
  obtain ⟨W2, st, k2, hb2, hl2⟩ := box_mail w Net.hd0 none 0 0
  have HLN := Lib.hid (len_none (h.below (below_alloc1 w (.cells #[.int .i64 0, .int .i64 0, .int .i64 0, .int .i64 0, .int .i64 0, .int .i64 0, .int .i64 0, .int .i64 0, .int .i64 0, .slice none 0 0, .int .i64 0, .int .i64 0, .int .i64 0, .int .i64 0, .int .i64 0, .int .i64 0, .int .i64 0, .int .i64 0] 36))))
  have HS := Lib.hid st
  have HB := Lib.hid hb2
  clear st hb2 h
  by_cases h0 : i < 0
  · go_enter Try.func32, Try.ntmps32
    go_wp2_with (refine wpList_store_run rfl 36 _ _ rfl ⟨w.heap.size, 0, none⟩ (.agg (mcells Net.hd0 (.slice none 0 0)).toArray) rfl rfl HS.out ?_)
    refine bodyPost_ret (results_row_tmp rfl _ _ _ _ _ _ _ rfl k2 Try.underlying36 rfl (by kernel_rfl)) rfl ?_
    exact ⟨rfl, HB⟩
  · have h1 : (0 : Int) ≤ i := by omega
    go_enter Try.func32, Try.ntmps32
    go_wp2_with fail
    refine HLN.out.mono ?_
    rintro e w' ⟨rfl, rfl⟩
    go_wp2_with (refine wpList_store_run rfl 36 _ _ rfl ⟨w.heap.size, 0, none⟩ (.agg (mcells Net.hd0 (.slice none 0 0)).toArray) rfl rfl HS.out ?_)
    refine bodyPost_ret (results_row_tmp rfl _ _ _ _ _ _ _ rfl k2 Try.underlying36 rfl (by kernel_rfl)) rfl ?_
    exact ⟨rfl, HB⟩
/-- A message without entries, laid into a box of one's own. -/
theorem box_at {W W1 : World} {b : Nat} {cs : Array Value} {t : TypeId} (hb : W.heap[b]? = some (.cells cs t (0, 0))) (hs : cs.size = 18) (hB : Below W.heap.size W W1) (hbl : w.heap.size ≤ b) (h0 : Below w.heap.size w W) :
    ∃ W2, (storeVar 36 ⟨b, 0, none⟩ (.agg (mcells Net.hd0 (.slice none 0 0)).toArray)).run Try.prog W1 = .ok () W2 ∧ W2.heap[b]? = some (.cells (mcells Net.hd0 (.slice none 0 0)).toArray t (0, 0)) ∧ Below w.heap.size w W2 := by
  have h1 := (hB.block b (lt_of_block hb)).trans hb
  have h2 := run_storeVar_row (P := Try.prog) W1 b t 36 cs (mcells Net.hd0 (.slice none 0 0)).toArray h1 (by kernel_rfl) hs (by simp [mcells, Value.oneCell'])
  have hbb := h0.trans (hB.mono h0.size)
  exact ⟨_, h2, setRow_heap _ _ _ _ _ _ h1, hbb.trans ((Foot.row (fun k => k = b) _ _ _ rfl).below fun k hk => ⟨Nat.lt_of_lt_of_le hk hbb.size, by omega⟩)⟩
set_option maxRecDepth 100000 in
theorem look_none (i : Int) (h : NoneAt w v) : Calls Try.prog 23 #[v, .int .i64 i] w (TellNone w) := by
  have hb0 := below_alloc1 w (.cells #[.int .i64 0, .int .i64 0, .int .i64 0, .int .i64 0, .int .i64 0, .int .i64 0, .int .i64 0, .int .i64 0, .int .i64 0, .slice none 0 0, .int .i64 0, .int .i64 0, .int .i64 0, .int .i64 0, .int .i64 0, .int .i64 0, .int .i64 0, .int .i64 0] 36)
  have n0 := heap_alloc_new w (.cells #[.int .i64 0, .int .i64 0, .int .i64 0, .int .i64 0, .int .i64 0, .int .i64 0, .int .i64 0, .int .i64 0, .int .i64 0, .slice none 0 0, .int .i64 0, .int .i64 0, .int .i64 0, .int .i64 0, .int .i64 0, .int .i64 0, .int .i64 0, .int .i64 0] 36)
  generalize hW : w.alloc (.cells #[.int .i64 0, .int .i64 0, .int .i64 0, .int .i64 0, .int .i64 0, .int .i64 0, .int .i64 0, .int .i64 0, .int .i64 0, .slice none 0 0, .int .i64 0, .int .i64 0, .int .i64 0, .int .i64 0, .int .i64 0, .int .i64 0, .int .i64 0, .int .i64 0] 36) = W at *
  have HW := Lib.hid hW
  have HCL := Lib.hid (fun cl => at_none i cl (h.below hb0))
  have HBX := Lib.hid (fun W1 (hB : Below W.heap.size W W1) => box_at n0 rfl hB (Nat.le_refl _) hb0)
  clear hb0 n0 hW
  rcases h with rfl | ⟨b, rfl, _⟩
  all_goals
    go_enter Try.func23, Try.ntmps23
    go_wp2_with (rw [HW.out])
    refine (HCL.out _).mono ?_
    rintro e W1 ⟨rfl, hB⟩
    obtain ⟨W2, hst, k2, hb2⟩ := HBX.out W1 hB.out
    have HS := Lib.hid hst
    have HB := Lib.hid hb2
    clear hst hb2
    go_wp2_with (refine wpList_store_run rfl 36 _ _ rfl ⟨w.heap.size, 0, none⟩ (.agg (mcells Net.hd0 (.slice none 0 0)).toArray) rfl rfl HS.out ?_)
    refine bodyPost_ret (results_row_tmp rfl _ _ _ _ _ _ _ rfl k2 Try.underlying36 rfl (by kernel_rfl)) rfl ?_
    exact ⟨rfl, HB⟩
set_option maxRecDepth 100000 in
theorem take_none (i : Int) (h : NoneAt w v) : Calls Try.prog 22 #[v, .int .i64 i] w (TellNone w) := by
  have hb0 := below_alloc1 w (.cells #[.int .i64 0, .int .i64 0, .int .i64 0, .int .i64 0, .int .i64 0, .int .i64 0, .int .i64 0, .int .i64 0, .int .i64 0, .slice none 0 0, .int .i64 0, .int .i64 0, .int .i64 0, .int .i64 0, .int .i64 0, .int .i64 0, .int .i64 0, .int .i64 0] 36)
  have n0 := heap_alloc_new w (.cells #[.int .i64 0, .int .i64 0, .int .i64 0, .int .i64 0, .int .i64 0, .int .i64 0, .int .i64 0, .int .i64 0, .int .i64 0, .slice none 0 0, .int .i64 0, .int .i64 0, .int .i64 0, .int .i64 0, .int .i64 0, .int .i64 0, .int .i64 0, .int .i64 0] 36)
  generalize hW : w.alloc (.cells #[.int .i64 0, .int .i64 0, .int .i64 0, .int .i64 0, .int .i64 0, .int .i64 0, .int .i64 0, .int .i64 0, .int .i64 0, .slice none 0 0, .int .i64 0, .int .i64 0, .int .i64 0, .int .i64 0, .int .i64 0, .int .i64 0, .int .i64 0, .int .i64 0] 36) = W at *
  have HW := Lib.hid hW
  have HCL := Lib.hid (fun cl => at_none i cl (h.below hb0))
  have HBX := Lib.hid (fun W1 (hB : Below W.heap.size W W1) => box_at n0 rfl hB (Nat.le_refl _) hb0)
  clear hb0 n0 hW
  rcases h with rfl | ⟨b, rfl, _⟩
  all_goals
    go_enter Try.func22, Try.ntmps22
    go_wp2_with (rw [HW.out])
    refine (HCL.out _).mono ?_
    rintro e W1 ⟨rfl, hB⟩
    obtain ⟨W2, hst, k2, hb2⟩ := HBX.out W1 hB.out
    have HS := Lib.hid hst
    have HB := Lib.hid hb2
    clear hst hb2
    go_wp2_with (refine wpList_store_run rfl 36 _ _ rfl ⟨w.heap.size, 0, none⟩ (.agg (mcells Net.hd0 (.slice none 0 0)).toArray) rfl rfl HS.out ?_)
    refine bodyPost_ret (results_row_tmp rfl _ _ _ _ _ _ _ rfl k2 Try.underlying36 rfl (by kernel_rfl)) rfl ?_
    exact ⟨rfl, HB⟩
set_option maxRecDepth 100000 in
theorem copy_none (i : Int) (h : NoneAt w v) : Calls Try.prog 21 #[v, .int .i64 i] w (FlagNone w) := by
  have HCL := Lib.hid (fun cl => at_none i cl h)
  rcases h with rfl | ⟨b, rfl, _⟩
  all_goals
    go_enter Try.func21, Try.ntmps21
    go_wp2_with fail
    refine (HCL.out _).mono ?_
    rintro e W1 ⟨rfl, hB⟩
    obtain ⟨W2, hst, k2, hb2, hl2⟩ := box_mail W1 Net.hd0 none 0 0
    have HS := Lib.hid hst
    have HB := Lib.hid hb2
    clear hst hb2
    go_wp2_with (refine wpList_store_run rfl 36 _ _ rfl ⟨W1.heap.size, 0, none⟩ (.agg (mcells Net.hd0 (.slice none 0 0)).toArray) rfl rfl HS.out ?_)
    go_ret
    exact ⟨rfl, Lib.hid (hB.out.trans (HB.out.mono hB.out.size))⟩
set_option maxRecDepth 100000 in
theorem drop_none (i : Int) (h : NoneAt w v) : Calls Try.prog 24 #[v, .int .i64 i] w (FlagNone w) := by
  have HCL := Lib.hid (fun cl => at_none i cl h)
  rcases h with rfl | ⟨b, rfl, _⟩
  all_goals
    go_enter Try.func24, Try.ntmps24
    go_wp2_with fail
    refine (HCL.out _).mono ?_
    rintro e W1 ⟨rfl, hB⟩
    obtain ⟨W2, hst, k2, hb2, hl2⟩ := box_mail W1 Net.hd0 none 0 0
    have HS := Lib.hid hst
    have HB := Lib.hid hb2
    clear hst hb2
    go_wp2_with (refine wpList_store_run rfl 36 _ _ rfl ⟨W1.heap.size, 0, none⟩ (.agg (mcells Net.hd0 (.slice none 0 0)).toArray) rfl rfl HS.out ?_)
    go_ret
    exact ⟨rfl, Lib.hid (hB.out.trans (HB.out.mono hB.out.size))⟩
set_option maxRecDepth 100000 in
theorem all_none (h : NoneAt w v) : Calls Try.prog 17 #[v] w fun e w' => ∃ A c, e = .returned (.slice A 0 c) ∧ Hid (Below w.heap.size w w') := by
  obtain ⟨i0, hi, hz0, hz1, hz2⟩ := info_parts Try.info_mail
  obtain ⟨W0, hmk, hown, hgr⟩ := run_make_full (P := Try.prog) w w.heap.size 27 36 i0 _ 18 Try.underlying27 hi hz0 hz1 .i64 .i64 0 (by rw [hz2]; omega) (by unfold maxLen; omega) (Nat.le_refl _)
  have HB : Hid (Below w.heap.size w W0) := (Below.refl _ _).grown hgr (Nat.le_refl _) (fun k hk => by cases hk)
  have HLN := Lib.hid (len_none h)
  have HMK := Lib.hid hmk
  clear h hmk hown hgr hi hz0 hz1 hz2
  go_enter Try.func17, Try.ntmps17
  go_wp2_with fail
  refine HLN.out.mono ?_
  rintro e w' ⟨rfl, rfl⟩
  have hmk : (Instr.makeSlice 27 (.int .i64 0) (.int .i64 0)).run Try.prog w = .ok (.slice (some ⟨w.heap.size, 0, none⟩) 0 0) W0 := HMK.out
  go_wp2_with fail
  clear hmk
  go_loopg [10] 0 (fun _ s10 wr => s10 = .int .i64 0 ∧ wr = W0)
  case atStart => exact ⟨rfl, rfl⟩
  case round =>
    obtain ⟨rfl, hw⟩ := hrel
    subst hw
    go_wp2_with fail
    go_ret
    exact ⟨_, _, rfl, HB⟩
set_option maxRecDepth 100000 in
set_option maxHeartbeats 2000000 in
theorem does_none (x : AV) (hk0 : 0 ≤ x.k) (h : NoneAt w v) : Calls Try.prog 11 #[v, .agg (acells x).toArray] w (TellNone w) := by
  obtain ⟨w1, hw1⟩ : ∃ w1, w1 = w.alloc (.cells (acells x).toArray 38) := ⟨_, rfl⟩
  obtain ⟨W, hW⟩ : ∃ W, W = w1.alloc (.cells #[.int .i64 0, .int .i64 0, .int .i64 0, .int .i64 0, .int .i64 0, .int .i64 0, .int .i64 0, .int .i64 0, .int .i64 0, .slice none 0 0, .int .i64 0, .int .i64 0, .int .i64 0, .int .i64 0, .int .i64 0, .int .i64 0, .int .i64 0, .int .i64 0] 36) := ⟨_, rfl⟩
  have hb1 : Below w.heap.size w w1 := by rw [hw1]; exact below_alloc1 w _
  have hs1 : w1.heap.size = w.heap.size + 1 := by rw [hw1]; simp
  have hb2 : Below w1.heap.size w1 W := by rw [hW]; exact below_alloc1 w1 _
  have n3 : W.heap[w.heap.size]? = some (.cells (acells x).toArray 38 (0, 0)) := by rw [hb2.block _ (by omega), hw1]; exact heap_alloc_new w _
  have n4 : W.heap[w1.heap.size]? = some (.cells #[.int .i64 0, .int .i64 0, .int .i64 0, .int .i64 0, .int .i64 0, .int .i64 0, .int .i64 0, .int .i64 0, .int .i64 0, .slice none 0 0, .int .i64 0, .int .i64 0, .int .i64 0, .int .i64 0, .int .i64 0, .int .i64 0, .int .i64 0, .int .i64 0] 36 (0, 0)) := by rw [hW]; exact heap_alloc_new w1 _
  have hb0 := hb1.trans (hb2.mono hb1.size)
  have HI := Lib.hid (h.below hb0)
  have HBX := Lib.hid (fun W1 (hB : Below W.heap.size W W1) => box_at n4 rfl hB hb1.size hb0)
  have HLD := Lib.hid (act_mail n3)
  have HW1 := Lib.hid hw1.symm
  have HW := Lib.hid hW.symm
  have hc0 := act_cells n3 0
  have hc19 := act_cells n3 19
  clear hw1 hW hb1 hs1 hb2 n3 n4 hb0 h
  obtain ⟨xk, hd, ea, ec, es, i⟩ := x
  unfold AV.v at *
  dsimp only at hk0 HLD ⊢
  have hc0 : W.cell? ⟨w.heap.size, 0, none⟩ = some (.int .u8 xk) := hc0.trans rfl
  have hc19 : W.cell? ⟨w.heap.size, 19, none⟩ = some (.int .i64 i) := hc19.trans rfl
  generalize hA : acells ⟨xk, hd, ea, ec, es, i⟩ = ac at *
  clear hA
  have hm : xk % 9 = 0 ∨ xk % 9 = 1 ∨ xk % 9 = 2 ∨ xk % 9 = 3 ∨ xk % 9 = 4 ∨ xk % 9 = 5 ∨ xk % 9 = 6 ∨ xk % 9 = 7 ∨ xk % 9 = 8 := by omega
  rcases hm with e | e | e | e | e | e | e | e | e
  · have HEK := Lib.hid e
    rw [← Int.tmod_eq_emod_of_nonneg hk0] at e
    go_enter Try.func11, Try.ntmps11
    go_wp2_with (first | rw [HW1.out] | rw [HW.out] | (refine wpList_load_run rfl 36 _ rfl ⟨w.heap.size, 1, none⟩ rfl HLD.out ?_))
    clear e
    refine (send_none _ HI.out).mono ?_
    rintro e W1 ⟨rfl, hB⟩
    obtain ⟨W2, hst, k2, hb2⟩ := HBX.out W1 hB.out
    have HS := Lib.hid hst
    have HB := Lib.hid hb2
    clear hst hb2
    go_wp2_with (refine wpList_store_run rfl 36 _ _ rfl ⟨w1.heap.size, 0, none⟩ (.agg (mcells Net.hd0 (.slice none 0 0)).toArray) rfl rfl HS.out ?_)
    refine bodyPost_ret (results_row_tmp rfl _ _ _ _ _ _ _ rfl k2 Try.underlying36 rfl (by kernel_rfl)) rfl ?_
    exact ⟨rfl, HB⟩
  · have HEK := Lib.hid e
    rw [← Int.tmod_eq_emod_of_nonneg hk0] at e
    go_enter Try.func11, Try.ntmps11
    go_wp2_with (first | rw [HW1.out] | rw [HW.out] | (refine wpList_load_run rfl 36 _ rfl ⟨w.heap.size, 1, none⟩ rfl HLD.out ?_))
    clear e
    refine (send_none _ HI.out).mono ?_
    rintro e W1 ⟨rfl, hB⟩
    obtain ⟨W2, hst, k2, hb2⟩ := HBX.out W1 hB.out
    have HS := Lib.hid hst
    have HB := Lib.hid hb2
    clear hst hb2
    go_wp2_with (refine wpList_store_run rfl 36 _ _ rfl ⟨w1.heap.size, 0, none⟩ (.agg (mcells Net.hd0 (.slice none 0 0)).toArray) rfl rfl HS.out ?_)
    refine bodyPost_ret (results_row_tmp rfl _ _ _ _ _ _ _ rfl k2 Try.underlying36 rfl (by kernel_rfl)) rfl ?_
    exact ⟨rfl, HB⟩
  · have HEK := Lib.hid e
    rw [← Int.tmod_eq_emod_of_nonneg hk0] at e
    go_enter Try.func11, Try.ntmps11
    go_wp2_with (first | rw [HW1.out] | rw [HW.out] | (refine wpList_load_run rfl 36 _ rfl ⟨w.heap.size, 1, none⟩ rfl HLD.out ?_))
    clear e
    refine (send_none _ HI.out).mono ?_
    rintro e W1 ⟨rfl, hB⟩
    obtain ⟨W2, hst, k2, hb2⟩ := HBX.out W1 hB.out
    have HS := Lib.hid hst
    have HB := Lib.hid hb2
    clear hst hb2
    go_wp2_with (refine wpList_store_run rfl 36 _ _ rfl ⟨w1.heap.size, 0, none⟩ (.agg (mcells Net.hd0 (.slice none 0 0)).toArray) rfl rfl HS.out ?_)
    refine bodyPost_ret (results_row_tmp rfl _ _ _ _ _ _ _ rfl k2 Try.underlying36 rfl (by kernel_rfl)) rfl ?_
    exact ⟨rfl, HB⟩
  · have HEK := Lib.hid e
    rw [← Int.tmod_eq_emod_of_nonneg hk0] at e
    go_enter Try.func11, Try.ntmps11
    go_wp2_with (first | rw [HW1.out] | rw [HW.out] | (refine wpList_load_run rfl 36 _ rfl ⟨w.heap.size, 1, none⟩ rfl HLD.out ?_))
    clear e
    refine (send_none _ HI.out).mono ?_
    rintro e W1 ⟨rfl, hB⟩
    obtain ⟨W2, hst, k2, hb2⟩ := HBX.out W1 hB.out
    have HS := Lib.hid hst
    have HB := Lib.hid hb2
    clear hst hb2
    go_wp2_with (refine wpList_store_run rfl 36 _ _ rfl ⟨w1.heap.size, 0, none⟩ (.agg (mcells Net.hd0 (.slice none 0 0)).toArray) rfl rfl HS.out ?_)
    refine bodyPost_ret (results_row_tmp rfl _ _ _ _ _ _ _ rfl k2 Try.underlying36 rfl (by kernel_rfl)) rfl ?_
    exact ⟨rfl, HB⟩
  · have HEK := Lib.hid e
    rw [← Int.tmod_eq_emod_of_nonneg hk0] at e
    go_enter Try.func11, Try.ntmps11
    go_wp2_with (first | rw [HW1.out] | rw [HW.out] | (refine wpList_load_run rfl 36 _ rfl ⟨w.heap.size, 1, none⟩ rfl HLD.out ?_))
    clear e
    refine (look_none i HI.out).mono ?_
    rintro e W1 ⟨rfl, hB⟩
    obtain ⟨W2, hst, k2, hb2⟩ := HBX.out W1 hB.out
    have HS := Lib.hid hst
    have HB := Lib.hid hb2
    clear hst hb2
    go_wp2_with (refine wpList_store_run rfl 36 _ _ rfl ⟨w1.heap.size, 0, none⟩ (.agg (mcells Net.hd0 (.slice none 0 0)).toArray) rfl rfl HS.out ?_)
    refine bodyPost_ret (results_row_tmp rfl _ _ _ _ _ _ _ rfl k2 Try.underlying36 rfl (by kernel_rfl)) rfl ?_
    exact ⟨rfl, HB⟩
  · have HEK := Lib.hid e
    rw [← Int.tmod_eq_emod_of_nonneg hk0] at e
    go_enter Try.func11, Try.ntmps11
    go_wp2_with (first | rw [HW1.out] | rw [HW.out] | (refine wpList_load_run rfl 36 _ rfl ⟨w.heap.size, 1, none⟩ rfl HLD.out ?_))
    clear e
    refine (take_none i HI.out).mono ?_
    rintro e W1 ⟨rfl, hB⟩
    obtain ⟨W2, hst, k2, hb2⟩ := HBX.out W1 hB.out
    have HS := Lib.hid hst
    have HB := Lib.hid hb2
    clear hst hb2
    go_wp2_with (refine wpList_store_run rfl 36 _ _ rfl ⟨w1.heap.size, 0, none⟩ (.agg (mcells Net.hd0 (.slice none 0 0)).toArray) rfl rfl HS.out ?_)
    refine bodyPost_ret (results_row_tmp rfl _ _ _ _ _ _ _ rfl k2 Try.underlying36 rfl (by kernel_rfl)) rfl ?_
    exact ⟨rfl, HB⟩
  · have HEK := Lib.hid e
    rw [← Int.tmod_eq_emod_of_nonneg hk0] at e
    go_enter Try.func11, Try.ntmps11
    go_wp2_with (first | rw [HW1.out] | rw [HW.out] | (refine wpList_load_run rfl 36 _ rfl ⟨w.heap.size, 1, none⟩ rfl HLD.out ?_))
    clear e
    refine (take_none i HI.out).mono ?_
    rintro e W1 ⟨rfl, hB⟩
    obtain ⟨W2, hst, k2, hb2⟩ := HBX.out W1 hB.out
    have HS := Lib.hid hst
    have HB := Lib.hid hb2
    clear hst hb2
    go_wp2_with (refine wpList_store_run rfl 36 _ _ rfl ⟨w1.heap.size, 0, none⟩ (.agg (mcells Net.hd0 (.slice none 0 0)).toArray) rfl rfl HS.out ?_)
    refine bodyPost_ret (results_row_tmp rfl _ _ _ _ _ _ _ rfl k2 Try.underlying36 rfl (by kernel_rfl)) rfl ?_
    exact ⟨rfl, HB⟩
  · have HEK := Lib.hid e
    rw [← Int.tmod_eq_emod_of_nonneg hk0] at e
    go_enter Try.func11, Try.ntmps11
    go_wp2_with (first | rw [HW1.out] | rw [HW.out] | (refine wpList_load_run rfl 36 _ rfl ⟨w.heap.size, 1, none⟩ rfl HLD.out ?_))
    clear e
    refine (copy_none i HI.out).mono ?_
    rintro e W1 ⟨rfl, hB⟩
    obtain ⟨W2, hst, k2, hb2⟩ := HBX.out W1 hB.out
    have HS := Lib.hid hst
    have HB := Lib.hid hb2
    clear hst hb2
    go_wp2_with (refine wpList_store_run rfl 36 _ _ rfl ⟨w1.heap.size, 0, none⟩ (.agg (mcells Net.hd0 (.slice none 0 0)).toArray) rfl rfl HS.out ?_)
    refine bodyPost_ret (results_row_tmp rfl _ _ _ _ _ _ _ rfl k2 Try.underlying36 rfl (by kernel_rfl)) rfl ?_
    exact ⟨rfl, HB⟩
  · have HEK := Lib.hid e
    rw [← Int.tmod_eq_emod_of_nonneg hk0] at e
    go_enter Try.func11, Try.ntmps11
    go_wp2_with (first | rw [HW1.out] | rw [HW.out] | (refine wpList_load_run rfl 36 _ rfl ⟨w.heap.size, 1, none⟩ rfl HLD.out ?_))
    clear e
    refine (drop_none i HI.out).mono ?_
    rintro e W1 ⟨rfl, hB⟩
    obtain ⟨W2, hst, k2, hb2⟩ := HBX.out W1 hB.out
    have HS := Lib.hid hst
    have HB := Lib.hid hb2
    clear hst hb2
    go_wp2_with (refine wpList_store_run rfl 36 _ _ rfl ⟨w1.heap.size, 0, none⟩ (.agg (mcells Net.hd0 (.slice none 0 0)).toArray) rfl rfl HS.out ?_)
    refine bodyPost_ret (results_row_tmp rfl _ _ _ _ _ _ _ rfl k2 Try.underlying36 rfl (by kernel_rfl)) rfl ?_
    exact ⟨rfl, HB⟩
end
end Go.Proofs.Ytlejlmlgcehjiaa
