/-
  What is done at a place: double, at; Look, Take, Copy, Drop.
-/
import Derived.Test.YtlejlmlgcehjiaaNCut
namespace Go.Proofs.Ytlejlmlgcehjiaa
open Go.RowKit
section
variable {w w' w0 : World} {n : Nat} {M : List Net.Ml} {S : Nat → Prop} {R : List Net.Ml × Net.Ml × Bool} {v : Value}
theorem Told.from_ {e : Ending} (hb : Below w0.heap.size w0 w) (h : Told w n S R e w') : Told w0 n S R e w' := by
  obtain ⟨A, c, h1, h2⟩ := h
  exact ⟨A, c, h1, Lib.hid (h2.out.from_ hb)⟩
/-- What is laid into a box of one's own, and handed on. -/
theorem told_box {W W1 : World} {b : Nat} {cs : Array Value} {t : TypeId} {A : Option Addr} {c : Nat} (hb : Below w.heap.size w W) (hbx : W.heap[b]? = some (.cells cs t (0, 0))) (hcs : cs.size = 18) (hsz : w.heap.size = b) (hlt : ∀ k, S k → k < w.heap.size)
    (hT : ToldAt W n S R (.slice A R.2.1.es.length c) W1) :
    ∃ W2, (storeVar 36 ⟨b, 0, none⟩ (.agg (mcells R.2.1.h (.slice A R.2.1.es.length c)).toArray)).run Try.prog W1 = .ok () W2 ∧ W2.heap[b]? = some (.cells (mcells R.2.1.h (.slice A R.2.1.es.length c)).toArray t (0, 0)) ∧ ToldAt w n S R (.slice A R.2.1.es.length c) W2 := by
  have hbl := lt_of_block hbx
  have hnS : ¬ S b := fun h => by have := hlt b h; omega
  have hb1 := hT.choose_spec.2.1.kept hbx hnS
  have h1 := run_storeVar_row (P := Try.prog) W1 b t 36 cs (mcells R.2.1.h (.slice A R.2.1.es.length c)).toArray hb1 (by kernel_rfl) hcs (by simp [mcells, Value.oneCell'])
  have h3 := Foot.row (fun k => k = b) W1 b (mcells R.2.1.h (.slice A R.2.1.es.length c)).toArray rfl
  exact ⟨_, h1, setRow_heap W1 b _ _ _ _ hb1, hT.box hbl hnS h3 (hsz ▸ hb) hsz (fun k hk => by have := hlt k hk; omega)⟩
set_option maxRecDepth 100000 in
set_option maxHeartbeats 1000000 in
theorem double_any {i : Nat} (hi : i < M.length) (h : IsNet HN w n M S) : Calls Try.prog 33 #[.pointer (some ⟨n, 0, none⟩), .int .i64 (i : Int)] w (Told w n S ((Net.send M M[i]).1, Net.ml0, (Net.send M M[i]).2)) := by
  have hb0 : Below w.heap.size w (w.alloc (.cells #[.int .i64 0, .int .i64 0, .int .i64 0, .int .i64 0, .int .i64 0, .int .i64 0, .int .i64 0, .int .i64 0, .int .i64 0, .slice none 0 0, .int .i64 0, .int .i64 0, .int .i64 0, .int .i64 0, .int .i64 0, .int .i64 0, .int .i64 0, .int .i64 0] 36)) := (Below.refl _ _).alloc (Nat.le_refl _) _
  have hN := h.below hb0
  have hlt0 := fun k hk => h.lt (k := k) hk
  have NB := Lib.hid (heap_alloc_new w (.cells #[.int .i64 0, .int .i64 0, .int .i64 0, .int .i64 0, .int .i64 0, .int .i64 0, .int .i64 0, .int .i64 0, .int .i64 0, .slice none 0 0, .int .i64 0, .int .i64 0, .int .i64 0, .int .i64 0, .int .i64 0, .int .i64 0, .int .i64 0, .int .i64 0] 36))
  have hsz : (w.alloc (.cells #[.int .i64 0, .int .i64 0, .int .i64 0, .int .i64 0, .int .i64 0, .int .i64 0, .int .i64 0, .int .i64 0, .int .i64 0, .slice none 0 0, .int .i64 0, .int .i64 0, .int .i64 0, .int .i64 0, .int .i64 0, .int .i64 0, .int .i64 0, .int .i64 0] 36)).heap.size = w.heap.size + 1 := by simp
  generalize hW : w.alloc (.cells #[.int .i64 0, .int .i64 0, .int .i64 0, .int .i64 0, .int .i64 0, .int .i64 0, .int .i64 0, .int .i64 0, .int .i64 0, .slice none 0 0, .int .i64 0, .int .i64 0, .int .i64 0, .int .i64 0, .int .i64 0, .int .i64 0, .int .i64 0, .int .i64 0] 36) = W at *
  have HW := Lib.hid hW
  obtain ⟨v, ms, hA⟩ := id hN
  have hi' : i < ms.length := by rw [hA.len]; exact hi
  obtain ⟨g, c, rfl, h1, h2, h3, h4, h5⟩ := hA.mails.at_ hi'
  obtain ⟨k0, k1, kz⟩ := hn_cells hA.head
  have hm : M[i] = ms[i].ml := by simp only [← hA.ml, List.getElem_map]
  have hld := Lib.hid (run_load_mail (W := W) (g := g) (o := i * 18) (h := ms[i].h) (v := ms[i].v) h4)
  have hE := (hA.mails.own _ (List.getElem_mem hi')).ents
  have HOW := Lib.hid (send_any ms[i].h hN hE (hA.mails.few _ (List.getElem_mem hi')))
  rw [hm]
  unfold Told
  dsimp only [MM.ml]
  generalize ms[i].h = hd at *
  generalize ms[i].v = mv at *
  generalize ms[i].es = es at *
  have hii : (i : Int) < (ms.length : Int) := by omega
  obtain ⟨⟨M', ok⟩, HR⟩ : ∃ R, Hid (Net.send M ⟨hd, es⟩ = R) := ⟨_, rfl⟩
  rw [HR.out] at HOW ⊢
  have HFIN : Hid (∀ W1, Hid (Chg HN W n S M' W1) → ∃ W2, (storeVar 36 ⟨w.heap.size, 0, none⟩ (.agg #[.int .i64 0, .int .i64 0, .int .i64 0, .int .i64 0, .int .i64 0, .int .i64 0, .int .i64 0, .int .i64 0, .int .i64 0, .slice none 0 0, .int .i64 0, .int .i64 0, .int .i64 0, .int .i64 0, .int .i64 0, .int .i64 0, .int .i64 0, .int .i64 0])).run Try.prog W1 = .ok () W2 ∧ W2.heap[w.heap.size]? = some (.cells #[.int .i64 0, .int .i64 0, .int .i64 0, .int .i64 0, .int .i64 0, .int .i64 0, .int .i64 0, .int .i64 0, .int .i64 0, .slice none 0 0, .int .i64 0, .int .i64 0, .int .i64 0, .int .i64 0, .int .i64 0, .int .i64 0, .int .i64 0, .int .i64 0] 36 (0, 0)) ∧ ToldAt w n S (M', Net.ml0, ok) (.slice none 0 0) W2) := fun W1 hc => by
    obtain ⟨S', c1, c2, c3⟩ := hc.out
    exact told_box (R := (M', Net.ml0, ok)) (A := none) (c := 0) hb0 NB.out rfl rfl hlt0 ⟨S', c1, c2, c3, EOwn.nil _ _, fun k hk => by cases hk⟩
  clear hN h hA hm hE hi' h4 h5 hlt0 hW hb0 HR
  unfold mval at HOW
  go_enter Try.func33, Try.ntmps33
  go_wp2_with (first | rw [HW.out] | (refine wpList_load_run rfl 36 _ rfl ⟨g, i * 18, none⟩ rfl hld.out ?_))
  refine HOW.out.mono ?_
  rintro e W1 ⟨rfl, hc⟩
  obtain ⟨W2, hst, k2, hT⟩ := HFIN.out W1 hc
  have HT := Lib.hid hT
  have HS := Lib.hid hst
  clear hT hst
  go_wp2_with (refine wpList_store_run rfl 36 _ _ rfl ⟨w.heap.size, 0, none⟩ _ rfl rfl HS.out ?_)
  refine bodyPost_ret (results_row_tmp rfl _ _ _ _ _ _ _ rfl k2 Try.underlying36 rfl (by kernel_rfl)) rfl ?_
  exact ⟨none, 0, rfl, HT⟩
theorem at_out (i : Int) (hi : ¬ Net.In M i) (h : IsNet HN w n M S) (cl : Value) : Calls Try.prog 32 #[.pointer (some ⟨n, 0, none⟩), .int .i64 i, cl] w (Told w n S (M, Net.ml0, false)) := by
  have hb0 : Below w.heap.size w (w.alloc (.cells #[.int .i64 0, .int .i64 0, .int .i64 0, .int .i64 0, .int .i64 0, .int .i64 0, .int .i64 0, .int .i64 0, .int .i64 0, .slice none 0 0, .int .i64 0, .int .i64 0, .int .i64 0, .int .i64 0, .int .i64 0, .int .i64 0, .int .i64 0, .int .i64 0] 36)) := (Below.refl _ _).alloc (Nat.le_refl _) _
  have hN := h.below hb0
  have NB := Lib.hid (heap_alloc_new w (.cells #[.int .i64 0, .int .i64 0, .int .i64 0, .int .i64 0, .int .i64 0, .int .i64 0, .int .i64 0, .int .i64 0, .int .i64 0, .slice none 0 0, .int .i64 0, .int .i64 0, .int .i64 0, .int .i64 0, .int .i64 0, .int .i64 0, .int .i64 0, .int .i64 0] 36))
  generalize hW : w.alloc (.cells #[.int .i64 0, .int .i64 0, .int .i64 0, .int .i64 0, .int .i64 0, .int .i64 0, .int .i64 0, .int .i64 0, .int .i64 0, .slice none 0 0, .int .i64 0, .int .i64 0, .int .i64 0, .int .i64 0, .int .i64 0, .int .i64 0, .int .i64 0, .int .i64 0] 36) = W at *
  have HW := Lib.hid hW
  have HLN := Lib.hid (len_any hN)
  obtain ⟨W2, hst, k2, hT⟩ := told_box (R := (M, Net.ml0, false)) (A := none) (c := 0) hb0 NB.out rfl rfl (fun k hk => h.lt hk) ⟨S, hN, Foot.refl S W, fun _ h => .inl h, EOwn.nil _ _, fun k hk => by cases hk⟩
  have HS : Hid ((storeVar 36 ⟨w.heap.size, 0, none⟩ (.agg #[.int .i64 0, .int .i64 0, .int .i64 0, .int .i64 0, .int .i64 0, .int .i64 0, .int .i64 0, .int .i64 0, .int .i64 0, .slice none 0 0, .int .i64 0, .int .i64 0, .int .i64 0, .int .i64 0, .int .i64 0, .int .i64 0, .int .i64 0, .int .i64 0])).run Try.prog W = .ok () W2) := hst
  have HT := Lib.hid hT
  have hI : i < 0 ∨ ¬ i < 0 ∧ (M.length : Int) ≤ i := by unfold Net.In at hi; omega
  clear hN h hW hb0 hst hT hi
  rcases hI with h0 | ⟨h0, h1⟩
  · go_enter Try.func32, Try.ntmps32
    go_wp2_with (first | rw [HW.out] | (refine wpList_store_run rfl 36 _ _ rfl ⟨w.heap.size, 0, none⟩ _ rfl rfl HS.out ?_))
    refine bodyPost_ret (results_row_tmp rfl _ _ _ _ _ _ _ rfl k2 Try.underlying36 rfl (by kernel_rfl)) rfl ?_
    exact ⟨none, 0, rfl, HT⟩
  · go_enter Try.func32, Try.ntmps32
    go_wp2_with (first | rw [HW.out] | (refine wpList_store_run rfl 36 _ _ rfl ⟨w.heap.size, 0, none⟩ _ rfl rfl HS.out ?_))
    refine HLN.out.mono ?_
    rintro e w' ⟨rfl, rfl⟩
    go_wp2_with (refine wpList_store_run rfl 36 _ _ rfl ⟨w.heap.size, 0, none⟩ _ rfl rfl HS.out ?_)
    refine bodyPost_ret (results_row_tmp rfl _ _ _ _ _ _ _ rfl k2 Try.underlying36 rfl (by kernel_rfl)) rfl ?_
    exact ⟨none, 0, rfl, HT⟩
theorem at_in (f : Nat) (ef : ∀ args w, (callFunc f args).run Try.prog w = .ok (.enter f args) w) {i : Nat} (hi : i < M.length) (h : IsNet HN w n M S) (hcl : ∀ W, IsNet HN W n M S → Calls Try.prog f #[.pointer (some ⟨n, 0, none⟩), .int .i64 (i : Int)] W (Told W n S R)) :
    Calls Try.prog 32 #[.pointer (some ⟨n, 0, none⟩), .int .i64 (i : Int), .func (.func f) #[.pointer (some ⟨n, 0, none⟩)] #[]] w (Told w n S R) := by
  have hb0 : Below w.heap.size w (w.alloc (.cells #[.int .i64 0, .int .i64 0, .int .i64 0, .int .i64 0, .int .i64 0, .int .i64 0, .int .i64 0, .int .i64 0, .int .i64 0, .slice none 0 0, .int .i64 0, .int .i64 0, .int .i64 0, .int .i64 0, .int .i64 0, .int .i64 0, .int .i64 0, .int .i64 0] 36)) := (Below.refl _ _).alloc (Nat.le_refl _) _
  have hN := h.below hb0
  have NB := Lib.hid (heap_alloc_new w (.cells #[.int .i64 0, .int .i64 0, .int .i64 0, .int .i64 0, .int .i64 0, .int .i64 0, .int .i64 0, .int .i64 0, .int .i64 0, .slice none 0 0, .int .i64 0, .int .i64 0, .int .i64 0, .int .i64 0, .int .i64 0, .int .i64 0, .int .i64 0, .int .i64 0] 36))
  generalize hW : w.alloc (.cells #[.int .i64 0, .int .i64 0, .int .i64 0, .int .i64 0, .int .i64 0, .int .i64 0, .int .i64 0, .int .i64 0, .int .i64 0, .slice none 0 0, .int .i64 0, .int .i64 0, .int .i64 0, .int .i64 0, .int .i64 0, .int .i64 0, .int .i64 0, .int .i64 0] 36) = W at *
  have HW := Lib.hid hW
  have HLN := Lib.hid (len_any hN)
  have HCL := Lib.hid (hcl W hN)
  have HTB := Lib.hid (fun W1 A c => told_box (n := n) (R := R) (W1 := W1) (A := A) (c := c) hb0 NB.out rfl rfl (fun k hk => h.lt hk))
  have hii : (i : Int) < (M.length : Int) := by omega
  clear hN h hW hb0 hcl
  go_enter Try.func32, Try.ntmps32
  go_wp2_with (rw [HW.out])
  refine HLN.out.mono ?_
  rintro e w' ⟨rfl, rfl⟩
  go_wp2_with (first | (refine wpList_store_run rfl 36 _ _ rfl ⟨w.heap.size, 0, none⟩ _ rfl rfl HS.out ?_) | (go_at_fn f; refine HCL.out.mono ?_; rintro e W1 ⟨A, c, rfl, hT⟩; obtain ⟨W2, hst, k2, hT2⟩ := HTB.out W1 A c hT.out; have HT := Lib.hid hT2; have HS := Lib.hid hst; clear hT hT2 hst))
  refine bodyPost_ret (results_row_tmp rfl _ _ _ _ _ _ _ rfl k2 Try.underlying36 rfl (by kernel_rfl)) rfl ?_
  exact ⟨A, c, rfl, HT⟩
theorem at_any (f : Nat) (ef : ∀ args w, (callFunc f args).run Try.prog w = .ok (.enter f args) w) (i : Int) (h : IsNet HN w n M S) (hin : ∀ k : Nat, k < M.length → i = (k : Int) → ∀ W, IsNet HN W n M S → Calls Try.prog f #[.pointer (some ⟨n, 0, none⟩), .int .i64 (k : Int)] W (Told W n S R))
    (hout : ¬ Net.In M i → R = (M, Net.ml0, false)) : Calls Try.prog 32 #[.pointer (some ⟨n, 0, none⟩), .int .i64 i, .func (.func f) #[.pointer (some ⟨n, 0, none⟩)] #[]] w (Told w n S R) := by
  by_cases hi : Net.In M i
  · obtain ⟨h0, h1⟩ := hi
    obtain ⟨k, rfl⟩ : ∃ k : Nat, i = (k : Int) := ⟨i.toNat, by omega⟩
    have hk : k < M.length := by omega
    exact at_in f ef hk h (hin k hk rfl)
  · rw [hout hi]
    exact at_out i hi h _
theorem getD_at {M : List Net.Ml} {k : Nat} (hk : k < M.length) : M.getD k Net.ml0 = M[k] := by rw [List.getD, List.getElem?_eq_getElem hk]; rfl
theorem at_tell (i : Int) (h : IsNet HN w n M S) : Calls Try.prog 32 #[.pointer (some ⟨n, 0, none⟩), .int .i64 i, .func (.func 30) #[.pointer (some ⟨n, 0, none⟩)] #[]] w (Told w n S (Net.look M i)) := by
  refine at_any _ (fun _ _ => (enters_of Try.func30 (by kernel_rfl) rfl) _ _) i h (fun k hk e W hW => ?_) fun hi => if_neg hi
  have hR : Net.look M i = (M, M[k], true) := by
    unfold Net.look
    rw [if_pos (by subst e; exact ⟨by omega, by omega⟩), e, Int.toNat_natCast, getD_at hk]
  rw [hR]
  exact tell_any hk hW
theorem at_cut (i : Int) (h : IsNet HN w n M S) : Calls Try.prog 32 #[.pointer (some ⟨n, 0, none⟩), .int .i64 i, .func (.func 34) #[.pointer (some ⟨n, 0, none⟩)] #[]] w (Told w n S (Net.take M i)) := by
  refine at_any _ (fun _ _ => (enters_of Try.func34 (by kernel_rfl) rfl) _ _) i h (fun k hk e W hW => ?_) fun hi => if_neg hi
  have hR : Net.take M i = (M.eraseIdx k, M[k], true) := by
    unfold Net.take
    rw [if_pos (by subst e; exact ⟨by omega, by omega⟩), e, Int.toNat_natCast, getD_at hk]
  rw [hR]
  exact cut_any hk hW
theorem at_double (i : Int) (h : IsNet HN w n M S) : Calls Try.prog 32 #[.pointer (some ⟨n, 0, none⟩), .int .i64 i, .func (.func 33) #[.pointer (some ⟨n, 0, none⟩)] #[]] w (Told w n S ((Net.copy M i).1, Net.ml0, (Net.copy M i).2)) := by
  refine at_any _ (fun _ _ => (enters_of Try.func33 (by kernel_rfl) rfl) _ _) i h (fun k hk e W hW => ?_) fun hi => ?_
  · have hR : Net.copy M i = Net.send M M[k] := by
      unfold Net.copy
      rw [if_pos (by subst e; exact ⟨by omega, by omega⟩), e, Int.toNat_natCast, getD_at hk]
    rw [hR]
    exact double_any hk hW
  · have hR : Net.copy M i = (M, false) := if_neg hi
    rw [hR]
set_option maxRecDepth 100000 in
set_option maxHeartbeats 1000000 in
theorem look_any (i : Int) (h : IsNet HN w n M S) : Calls Try.prog 23 #[.pointer (some ⟨n, 0, none⟩), .int .i64 i] w (Told w n S (Net.look M i)) := by
  have hb0 : Below w.heap.size w (w.alloc (.cells #[.int .i64 0, .int .i64 0, .int .i64 0, .int .i64 0, .int .i64 0, .int .i64 0, .int .i64 0, .int .i64 0, .int .i64 0, .slice none 0 0, .int .i64 0, .int .i64 0, .int .i64 0, .int .i64 0, .int .i64 0, .int .i64 0, .int .i64 0, .int .i64 0] 36)) := (Below.refl _ _).alloc (Nat.le_refl _) _
  have hN := h.below hb0
  have NB := Lib.hid (heap_alloc_new w (.cells #[.int .i64 0, .int .i64 0, .int .i64 0, .int .i64 0, .int .i64 0, .int .i64 0, .int .i64 0, .int .i64 0, .int .i64 0, .slice none 0 0, .int .i64 0, .int .i64 0, .int .i64 0, .int .i64 0, .int .i64 0, .int .i64 0, .int .i64 0, .int .i64 0] 36))
  generalize hW : w.alloc (.cells #[.int .i64 0, .int .i64 0, .int .i64 0, .int .i64 0, .int .i64 0, .int .i64 0, .int .i64 0, .int .i64 0, .int .i64 0, .slice none 0 0, .int .i64 0, .int .i64 0, .int .i64 0, .int .i64 0, .int .i64 0, .int .i64 0, .int .i64 0, .int .i64 0] 36) = W at *
  have HW := Lib.hid hW
  have HCL := Lib.hid (at_tell i hN)
  have HTB := Lib.hid (fun W1 A c => told_box (n := n) (R := Net.look M i) (W1 := W1) (A := A) (c := c) hb0 NB.out rfl rfl (fun k hk => h.lt hk))
  generalize Net.look M i = R at *
  clear hN h hW hb0
  go_enter Try.func23, Try.ntmps23
  go_wp2_with (rw [HW.out])
  refine HCL.out.mono ?_
  rintro e W1 ⟨A, c, rfl, hT⟩
  obtain ⟨W2, hst, k2, hT2⟩ := HTB.out W1 A c hT.out
  have HT := Lib.hid hT2
  have HS := Lib.hid hst
  clear hT hT2 hst
  go_wp2_with (refine wpList_store_run rfl 36 _ _ rfl ⟨w.heap.size, 0, none⟩ _ rfl rfl HS.out ?_)
  refine bodyPost_ret (results_row_tmp rfl _ _ _ _ _ _ _ rfl k2 Try.underlying36 rfl (by kernel_rfl)) rfl ?_
  exact ⟨A, c, rfl, HT⟩
set_option maxRecDepth 100000 in
set_option maxHeartbeats 1000000 in
theorem take_any (i : Int) (h : IsNet HN w n M S) : Calls Try.prog 22 #[.pointer (some ⟨n, 0, none⟩), .int .i64 i] w (Told w n S (Net.take M i)) := by
  have hb0 : Below w.heap.size w (w.alloc (.cells #[.int .i64 0, .int .i64 0, .int .i64 0, .int .i64 0, .int .i64 0, .int .i64 0, .int .i64 0, .int .i64 0, .int .i64 0, .slice none 0 0, .int .i64 0, .int .i64 0, .int .i64 0, .int .i64 0, .int .i64 0, .int .i64 0, .int .i64 0, .int .i64 0] 36)) := (Below.refl _ _).alloc (Nat.le_refl _) _
  have hN := h.below hb0
  have NB := Lib.hid (heap_alloc_new w (.cells #[.int .i64 0, .int .i64 0, .int .i64 0, .int .i64 0, .int .i64 0, .int .i64 0, .int .i64 0, .int .i64 0, .int .i64 0, .slice none 0 0, .int .i64 0, .int .i64 0, .int .i64 0, .int .i64 0, .int .i64 0, .int .i64 0, .int .i64 0, .int .i64 0] 36))
  generalize hW : w.alloc (.cells #[.int .i64 0, .int .i64 0, .int .i64 0, .int .i64 0, .int .i64 0, .int .i64 0, .int .i64 0, .int .i64 0, .int .i64 0, .slice none 0 0, .int .i64 0, .int .i64 0, .int .i64 0, .int .i64 0, .int .i64 0, .int .i64 0, .int .i64 0, .int .i64 0] 36) = W at *
  have HW := Lib.hid hW
  have HCL := Lib.hid (at_cut i hN)
  have HTB := Lib.hid (fun W1 A c => told_box (n := n) (R := Net.take M i) (W1 := W1) (A := A) (c := c) hb0 NB.out rfl rfl (fun k hk => h.lt hk))
  generalize Net.take M i = R at *
  clear hN h hW hb0
  go_enter Try.func22, Try.ntmps22
  go_wp2_with (rw [HW.out])
  refine HCL.out.mono ?_
  rintro e W1 ⟨A, c, rfl, hT⟩
  obtain ⟨W2, hst, k2, hT2⟩ := HTB.out W1 A c hT.out
  have HT := Lib.hid hT2
  have HS := Lib.hid hst
  clear hT hT2 hst
  go_wp2_with (refine wpList_store_run rfl 36 _ _ rfl ⟨w.heap.size, 0, none⟩ _ rfl rfl HS.out ?_)
  refine bodyPost_ret (results_row_tmp rfl _ _ _ _ _ _ _ rfl k2 Try.underlying36 rfl (by kernel_rfl)) rfl ?_
  exact ⟨A, c, rfl, HT⟩
/-- What an answer of yes or no, of a call that tells nothing, leaves. -/
def Flag (w : World) (n : Nat) (S : Nat → Prop) (M' : List Net.Ml) (ok : Bool) (e : Ending) (w' : World) : Prop := e = .returned (.bool ok) ∧ Hid (Chg HN w n S M' w')
set_option maxRecDepth 100000 in
set_option maxHeartbeats 1000000 in
theorem copy_any (i : Int) (h : IsNet HN w n M S) : Calls Try.prog 21 #[.pointer (some ⟨n, 0, none⟩), .int .i64 i] w (Flag w n S (Net.copy M i).1 (Net.copy M i).2) := by
  have HCL := Lib.hid (at_double i h)
  generalize Net.copy M i = R at *
  obtain ⟨M', ok⟩ := R
  clear h
  dsimp only at HCL ⊢
  go_enter Try.func21, Try.ntmps21
  go_wp2_with fail
  refine HCL.out.mono ?_
  rintro e W1 ⟨A, c, rfl, hT⟩
  have hx : (W1.alloc (.cells #[.int .i64 0, .int .i64 0, .int .i64 0, .int .i64 0, .int .i64 0, .int .i64 0, .int .i64 0, .int .i64 0, .int .i64 0, .slice none 0 0, .int .i64 0, .int .i64 0, .int .i64 0, .int .i64 0, .int .i64 0, .int .i64 0, .int .i64 0, .int .i64 0] 36)).heap[W1.heap.size]? = some (.cells #[.int .i64 0, .int .i64 0, .int .i64 0, .int .i64 0, .int .i64 0, .int .i64 0, .int .i64 0, .int .i64 0, .int .i64 0, .slice none 0 0, .int .i64 0, .int .i64 0, .int .i64 0, .int .i64 0, .int .i64 0, .int .i64 0, .int .i64 0, .int .i64 0] 36 (0, 0)) := heap_alloc_new W1 _
  have hst := run_storeVar_row (P := Try.prog) _ W1.heap.size 36 36 _ (mcells Net.hd0 (.slice A 0 c)).toArray hx (by kernel_rfl) rfl (by simp [mcells, Value.oneCell'])
  have HB : Hid (Below W1.heap.size W1 ((W1.alloc (.cells #[.int .i64 0, .int .i64 0, .int .i64 0, .int .i64 0, .int .i64 0, .int .i64 0, .int .i64 0, .int .i64 0, .int .i64 0, .slice none 0 0, .int .i64 0, .int .i64 0, .int .i64 0, .int .i64 0, .int .i64 0, .int .i64 0, .int .i64 0, .int .i64 0] 36)).setRow W1.heap.size (mcells Net.hd0 (.slice A 0 c)).toArray)) := ((Below.refl _ _).alloc (Nat.le_refl _) _).trans ((Foot.row (fun k => k = W1.heap.size) _ _ _ rfl).below fun k hk => ⟨by simp; omega, by omega⟩)
  have HS := Lib.hid hst
  clear hst hx
  dsimp only [Net.ml0, List.length_nil] at hT ⊢
  go_wp2_with (refine wpList_store_run rfl 36 _ _ rfl ⟨W1.heap.size, 0, none⟩ _ rfl rfl HS.out ?_)
  go_ret
  refine ⟨rfl, ?_⟩
  obtain ⟨S', c1, c2, c3, _⟩ := hT.out
  exact Chg.then_ ⟨S', c1, c2, c3⟩ HB.out
set_option maxRecDepth 100000 in
set_option maxHeartbeats 1000000 in
theorem drop_any (i : Int) (h : IsNet HN w n M S) : Calls Try.prog 24 #[.pointer (some ⟨n, 0, none⟩), .int .i64 i] w (Flag w n S (Net.take M i).1 (Net.take M i).2.2) := by
  have HCL := Lib.hid (at_cut i h)
  generalize Net.take M i = R at *
  obtain ⟨M', ⟨hd, es⟩, ok⟩ := R
  clear h
  dsimp only at HCL ⊢
  go_enter Try.func24, Try.ntmps24
  go_wp2_with fail
  refine HCL.out.mono ?_
  rintro e W1 ⟨A, c, rfl, hT⟩
  have hx : (W1.alloc (.cells #[.int .i64 0, .int .i64 0, .int .i64 0, .int .i64 0, .int .i64 0, .int .i64 0, .int .i64 0, .int .i64 0, .int .i64 0, .slice none 0 0, .int .i64 0, .int .i64 0, .int .i64 0, .int .i64 0, .int .i64 0, .int .i64 0, .int .i64 0, .int .i64 0] 36)).heap[W1.heap.size]? = some (.cells #[.int .i64 0, .int .i64 0, .int .i64 0, .int .i64 0, .int .i64 0, .int .i64 0, .int .i64 0, .int .i64 0, .int .i64 0, .slice none 0 0, .int .i64 0, .int .i64 0, .int .i64 0, .int .i64 0, .int .i64 0, .int .i64 0, .int .i64 0, .int .i64 0] 36 (0, 0)) := heap_alloc_new W1 _
  have hst := run_storeVar_row (P := Try.prog) _ W1.heap.size 36 36 _ (mcells hd (.slice A es.length c)).toArray hx (by kernel_rfl) rfl (by simp [mcells, Value.oneCell'])
  have HB : Hid (Below W1.heap.size W1 ((W1.alloc (.cells #[.int .i64 0, .int .i64 0, .int .i64 0, .int .i64 0, .int .i64 0, .int .i64 0, .int .i64 0, .int .i64 0, .int .i64 0, .slice none 0 0, .int .i64 0, .int .i64 0, .int .i64 0, .int .i64 0, .int .i64 0, .int .i64 0, .int .i64 0, .int .i64 0] 36)).setRow W1.heap.size (mcells hd (.slice A es.length c)).toArray)) := ((Below.refl _ _).alloc (Nat.le_refl _) _).trans ((Foot.row (fun k => k = W1.heap.size) _ _ _ rfl).below fun k hk => ⟨by simp; omega, by omega⟩)
  have HS := Lib.hid hst
  clear hst hx
  dsimp only [Net.ml0, List.length_nil] at hT ⊢
  go_wp2_with (refine wpList_store_run rfl 36 _ _ rfl ⟨W1.heap.size, 0, none⟩ _ rfl rfl HS.out ?_)
  go_ret
  refine ⟨rfl, ?_⟩
  obtain ⟨S', c1, c2, c3, _⟩ := hT.out
  exact Chg.then_ ⟨S', c1, c2, c3⟩ HB.out
end
end Go.Proofs.Ytlejlmlgcehjiaa
