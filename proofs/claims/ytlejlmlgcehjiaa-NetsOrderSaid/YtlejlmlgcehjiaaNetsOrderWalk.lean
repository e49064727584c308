/-
  The walk of the law NetsOrder.
-/
import Derived.Test.YtlejlmlgcehjiaaNList
import Derived.Test.YtlejlmlgcehjiaaNOpens
import Derived.Test.YtlejlmlgcehjiaaRows
namespace Go.Proofs.Ytlejlmlgcehjiaa.netsOrderW
open Go.RowKit
/-- What holds on the way: the stamps are those of what is under way; the marks rise. -/
structure Inv (M : List Net.Ml) (marks stamps : List Int) (came : Nat) : Prop where
  st : stamps = M.map fun m => m.h.sp
  ln : marks.length = M.length
  up : marks.Pairwise (· < ·)
  lt : ∀ x ∈ marks, x < (came : Int)
theorem Inv.init : Inv [] [] [] 0 := ⟨rfl, rfl, List.Pairwise.nil, fun x hx => by cases hx⟩
theorem Inv.sl {M : List Net.Ml} {marks stamps : List Int} {came : Nat} (h : Inv M marks stamps came) : stamps.length = M.length := by rw [h.st, List.length_map]
theorem Inv.more {M : List Net.Ml} {marks stamps : List Int} {came : Nat} (h : Inv M marks stamps came) (m : Net.Ml) : Inv (M ++ [m]) (marks ++ [(came : Int)]) (stamps ++ [m.h.sp]) (came + 1) := by
  refine ⟨by rw [h.st, List.map_append]; rfl, by rw [List.length_append, List.length_append, h.ln]; rfl, ?_, fun x hx => ?_⟩
  · rw [List.pairwise_append]
    refine ⟨h.up, List.pairwise_singleton _ _, fun a ha b hb => ?_⟩
    obtain rfl : b = (came : Int) := by simpa using hb
    exact h.lt a ha
  · rcases List.mem_append.1 hx with hx | hx
    · have := h.lt x hx; omega
    · obtain rfl : x = (came : Int) := by simpa using hx
      omega
theorem Inv.cut {M : List Net.Ml} {marks stamps : List Int} {came : Nat} (h : Inv M marks stamps came) {k : Nat} (hk : k < M.length) : Inv (M.eraseIdx k) (marks.eraseIdx k) (stamps.eraseIdx k) came := by
  refine ⟨?_, by rw [List.length_eraseIdx_of_lt hk, List.length_eraseIdx_of_lt (by rw [h.ln]; exact hk), h.ln], h.up.sublist (List.eraseIdx_sublist _ _), fun x hx => h.lt x ((List.eraseIdx_sublist _ _).subset hx)⟩
  rw [h.st, List.eraseIdx_eq_take_drop_succ, List.eraseIdx_eq_take_drop_succ, List.map_append, List.map_take, List.map_drop]
theorem Inv.sp {M : List Net.Ml} {marks stamps : List Int} {came : Nat} (h : Inv M marks stamps came) {k : Nat} (hk : k < M.length) : stamps.getD k 0 = (M[k]).h.sp := by
  rw [h.st, List.getD, List.getElem?_map, List.getElem?_eq_getElem hk]; rfl
theorem act_cases {M M' : List Net.Ml} {k : Int} {m m' : Net.Ml} {i : Int} {r : Bool} (h : Net.act M k m i = (M', m', r)) (h0 : 0 ≤ k) :
    ((0 ≤ k.tmod 9 ∧ k.tmod 9 < 4) ∧ (r = true ∧ M' = M ++ [m] ∨ r = false ∧ M' = M ∧ 512 ≤ M.length)) ∨ (k.tmod 9 = 4 ∧ M' = M ∧ (r = true ∨ r = false ∧ ¬ Net.In M i)) ∨
    (k.tmod 9 = 7 ∧ (r = true ∧ M' = M ++ [M.getD i.toNat Net.ml0] ∧ Net.In M i ∨ r = false ∧ M' = M)) ∨ ((k.tmod 9 = 5 ∨ k.tmod 9 = 6 ∨ k.tmod 9 = 8) ∧ (r = true ∧ M' = M.eraseIdx i.toNat ∧ Net.In M i ∨ r = false ∧ M' = M ∧ ¬ Net.In M i)) := by
  rw [Int.tmod_eq_emod_of_nonneg h0]
  have hm : (k % 9 = 0 ∨ k % 9 = 1 ∨ k % 9 = 2 ∨ k % 9 = 3) ∨ k % 9 = 4 ∨ (k % 9 = 5 ∨ k % 9 = 6) ∨ k % 9 = 7 ∨ k % 9 = 8 := by omega
  rcases hm with e | e | e | e | e
  · left
    refine ⟨by omega, ?_⟩
    rw [Net.act_send e] at h
    unfold Net.send at h
    split at h
    · rename_i h5
      injection h with h1 h2; injection h2 with h2 h3
      exact .inr ⟨h3.symm, h1.symm, h5⟩
    · injection h with h1 h2; injection h2 with h2 h3
      exact .inl ⟨h3.symm, h1.symm⟩
  · right; left
    rw [Net.act_look e] at h
    unfold Net.look at h
    split at h
    · injection h with h1 h2; injection h2 with h2 h3
      exact ⟨e, h1.symm, .inl h3.symm⟩
    · rename_i h5
      injection h with h1 h2; injection h2 with h2 h3
      exact ⟨e, h1.symm, .inr ⟨h3.symm, h5⟩⟩
  · right; right; right
    refine ⟨by omega, ?_⟩
    rw [Net.act_take e] at h
    unfold Net.take at h
    split at h
    · rename_i h5
      injection h with h1 h2; injection h2 with h2 h3
      exact .inl ⟨h3.symm, h1.symm, h5⟩
    · rename_i h5
      injection h with h1 h2; injection h2 with h2 h3
      exact .inr ⟨h3.symm, h1.symm, h5⟩
  · right; right; left
    refine ⟨e, ?_⟩
    rw [Net.act_copy e] at h
    unfold Net.copy at h
    split at h
    · rename_i h5
      unfold Net.send at h
      split at h
      · injection h with h1 h2; injection h2 with h2 h3
        exact .inr ⟨h3.symm, h1.symm⟩
      · injection h with h1 h2; injection h2 with h2 h3
        exact .inl ⟨h3.symm, h1.symm, h5⟩
    · injection h with h1 h2; injection h2 with h2 h3
      exact .inr ⟨h3.symm, h1.symm⟩
  · right; right; right
    refine ⟨by omega, ?_⟩
    rw [Net.act_drop e] at h
    unfold Net.take at h
    split at h
    · rename_i h5
      injection h with h1 h2; injection h2 with h2 h3
      exact .inl ⟨h3.symm, h1.symm, h5⟩
    · rename_i h5
      injection h with h1 h2; injection h2 with h2 h3
      exact .inr ⟨h3.symm, h1.symm, h5⟩
/-- An act in a box of its own. -/
theorem box_act (W : World) (x : AV) : ∃ W2, (storeVar 38 ⟨W.heap.size, 0, none⟩ (.agg (acells x).toArray)).run Try.prog (W.alloc (.cells #[.int .u8 0, .int .i64 0, .int .i64 0, .int .i64 0, .int .i64 0, .int .i64 0, .int .i64 0, .int .i64 0, .int .i64 0, .int .i64 0, .slice none 0 0, .int .i64 0, .int .i64 0, .int .i64 0, .int .i64 0, .int .i64 0, .int .i64 0, .int .i64 0, .int .i64 0, .int .i64 0] 38)) = .ok () W2 ∧ W2.heap[W.heap.size]? = some (.cells (acells x).toArray 38 (0, 0)) ∧ Below W.heap.size W W2 := by
  have hx := heap_alloc_new W (.cells #[.int .u8 0, .int .i64 0, .int .i64 0, .int .i64 0, .int .i64 0, .int .i64 0, .int .i64 0, .int .i64 0, .int .i64 0, .int .i64 0, .slice none 0 0, .int .i64 0, .int .i64 0, .int .i64 0, .int .i64 0, .int .i64 0, .int .i64 0, .int .i64 0, .int .i64 0, .int .i64 0] 38)
  have hst := run_storeVar_row (P := Try.prog) _ W.heap.size 38 38 _ (acells x).toArray hx (by kernel_rfl) rfl (by simp [acells, mcells, AV.v, Value.oneCell'])
  exact ⟨_, hst, setRow_heap _ _ _ _ _ _ hx, (below_alloc1 W _).trans ((Foot.row (fun k => k = W.heap.size) _ _ _ rfl).below fun k hk => ⟨by simp; omega, by omega⟩)⟩
def stamped (x : AV) (s : Int) : AV := { x with h := { x.h with sp := s } }
theorem set_astamp {X : World} {b : Nat} {x : AV} (hb : X.heap[b]? = some (.cells (acells x).toArray 38 (0, 0))) (s : Int) :
    (X.setCell ⟨b, 9, none⟩ (.int .i64 s)).heap[b]? = some (.cells (acells (stamped x s)).toArray 38 (0, 0)) := by
  rw [setCell_eq_setRow X b 9 _ _ _ _ hb, setRow_heap X b _ _ _ _ hb]; rfl
theorem load_act {X : World} {b : Nat} {x : AV} (hb : X.heap[b]? = some (.cells (acells x).toArray 38 (0, 0))) : (loadVar 38 ⟨b, 0, none⟩).run Try.prog X = .ok (.agg (acells x).toArray) X :=
  run_loadVar_row X b _ _ (acells x).toArray _ _ hb Try.underlying38 rfl (by kernel_rfl)
set_option maxRecDepth 100000 in
set_option maxHeartbeats 16000000 in
theorem walk (v : Value) (l : List AV) (w : World) (h : ARead w v l) (hk : ∀ x ∈ l, 0 ≤ x.k) : Calls Try.prog 5 #[v] w fun e w' => e = .returned (.bool true) ∧ Below w.heap.size w w' := by
  have HG := Lib.hid (great_any h)
  have HA := Lib.hid h
  have HK := Lib.hid hk
  obtain ⟨A, c, rfl, hc1, hc2, hc3⟩ := h
  clear hk hc3 hc1 hc2
  go_enter Try.func5, Try.ntmps5
  go_wp2_with fail
  refine HG.out.mono ?_
  rintro e w1 ⟨b, rfl, hs, hb1⟩
  clear HG
  cases b with
  | true =>
    go_wp2_with fail
    go_ret
    exact ⟨rfl, hb1⟩
  | false =>
    have HS := Lib.hid (hs rfl)
    have HB1 := Lib.hid hb1
    have HR : Hid (ARead w1 (.slice A l.length c) l) := HA.out.below hb1
    have hl8 : l.length ≤ 800 := HS.out.2
    clear hs hb1 HA
    go_wp2_with fail
    refine (on_new w1).mono ?_
    rintro e w2 ⟨n, S, rfl, H, HBN, HSN⟩
    have H0 : Hid (OnR w1 n [] (.slice none 0 0) [] (.slice (some ⟨w2.heap.size, 0, none⟩) 0 0) [] (w2.alloc (.cells #[] 3))) := by
      have hb := below_alloc1 w2 (.cells #[] 3)
      refine ⟨⟨S, H.out.rebase (fun k hk => (HSN.out k hk).2) hb, fun k hk => Nat.lt_of_lt_of_le (HSN.out k hk).2 hb.size, (fun k hk => by cases hk), fun k hk hs => ?_⟩, World.ownsRow_nil _ _ _ _, empty_own 3 HBN.out.size, fun k hk => by cases hk⟩
      have h2 : w2.heap.size = k := Option.some.inj hk
      have := (HSN.out k hs).2
      omega
    clear H HBN HSN
    go_wp2_with fail
    go_loopg [4, 5, 6, 7] l.length (fun kx s4 s5 s6 s7 wr => ∃ (i came : Nat) (M : List Net.Ml) (A4 A6 : Option Addr) (c4 c6 : Nat) (l4 l6 : List Int), i ≤ l.length ∧ s7 = .int .i64 (i : Int) ∧ s5 = .int .i64 (came : Int) ∧ s4 = .slice A4 l4.length c4 ∧ s6 = .slice A6 l6.length c6 ∧ came ≤ i ∧ l.length - i ≤ kx ∧ Hid (Inv M l4 l6 came) ∧ Hid (OnR w1 n M (.slice A4 l4.length c4) l4 (.slice A6 l6.length c6) l6 wr))
    case atStart => exact ⟨0, 0, [], none, _, 0, 0, [], [], Nat.zero_le _, rfl, rfl, rfl, rfl, Nat.zero_le _, by omega, Inv.init, H0⟩
    case round =>
      obtain ⟨i, came, M, A4, A6, c4, c6, l4, l6, hil, rfl, rfl, rfl, rfl, hci, hik, HI, HO⟩ := hrel
      clear H0
      by_cases hlt : i < l.length
      · obtain ⟨A0, c0, hv, hv3, hv4, hcl, hEn⟩ := HR.out
        injection hv with hv1 _ hv2
        subst hv1 hv2
        obtain ⟨b, o, rfl, hbl, hcells⟩ := hcl (by omega)
        have hcx := hcells i hlt
        have hEx := hEn _ (List.getElem_mem hlt)
        have hkx := HK.out _ (List.getElem_mem hlt)
        have hlx := HS.out.1 _ (List.getElem_mem hlt)
        have hlk : (i : Int) < (l.length : Int) := by omega
        clear hcells hEn hcl hv3 hv4
        generalize l[i] = x at *
        have hOB := HO.out.bel
        have HLD := Lib.hid (run_load_act (W := wr) (g := b) (o := o + i * 20) (x := x) fun j hj => (hOB.cell (p := ⟨b, o + i * 20 + j, none⟩) hbl).trans (hcx j hj))
        obtain ⟨w3, st3, k3, b3⟩ := box_act wr x
        have c9 : w3.cell? ⟨wr.heap.size, 9, none⟩ = some (.int .i64 x.h.sp) := by rw [act_cells k3]; rfl
        have z9 := frozen_of_row w3 wr.heap.size 9 _ _ k3
        obtain ⟨w4, hw4⟩ : ∃ w4, w4 = w3.setCell ⟨wr.heap.size, 9, none⟩ (.int .i64 (came : Int)) := ⟨_, rfl⟩
        have k4 : w4.heap[wr.heap.size]? = some (.cells (acells (stamped x (came : Int))).toArray 38 (0, 0)) := by rw [hw4]; exact set_astamp k3 _
        have b4 : Below wr.heap.size wr w4 := b3.trans (by rw [hw4]; exact (Below.refl wr.heap.size w3).setCell (p := ⟨wr.heap.size, 9, none⟩) (Nat.le_refl _) _)
        obtain ⟨⟨M', m, r⟩, HAC⟩ : ∃ R, Hid (Net.act M (stamped x (came : Int)).k (stamped x (came : Int)).ml (stamped x (came : Int)).i = R) := ⟨_, rfl⟩
        have HDO := Lib.hid (onr_does (stamped x (came : Int)) hkx HO.out b4 (Nat.le_refl _) k4 (hEx.below (hOB.trans (b4.mono hOB.size))) hlx HAC.out)
        have HCS := Lib.hid (act_cases HAC.out hkx)
        have HL4 := Lib.hid (load_act k4)
        have HW4 := Lib.hid hw4.symm
        have ST3 := Lib.hid st3
        have c19 : w4.cell? ⟨wr.heap.size, 19, none⟩ = some (.int .i64 x.i) := by rw [act_cells k4]; rfl
        have HB4 := Lib.hid b4
        clear hcx hEx hlx hOB k3 b3 hw4 k4 b4 st3 hkx
        go_wp2_with (first | rw [HW4.out] | (refine wpList_load_run rfl 38 _ rfl ⟨b, o + i * 20, none⟩ rfl HLD.out ?_) | (refine wpList_store_run rfl 38 _ _ rfl ⟨wr.heap.size, 0, none⟩ _ rfl rfl ST3.out ?_) | (refine wpList_load_run rfl 38 _ rfl ⟨wr.heap.size, 0, none⟩ rfl HL4.out ?_))
        refine HDO.out.mono ?_
        rintro e w5 ⟨A5, c5, rfl, H5, HK5⟩
        obtain ⟨w6, st6, k6, b6, l6'⟩ := box_mail w5 m.h A5 m.es.length c5
        have H6 : Hid (OnR w1 n M' (.slice A4 l4.length c4) l4 (.slice A6 l6.length c6) l6 w6) := H5.out.below b6
        have hk5 := (b6.block wr.heap.size (lt_of_block HK5.out)).trans HK5.out
        have c0 : w6.cell? ⟨wr.heap.size, 0, none⟩ = some (.int .u8 x.k) := by rw [act_cells hk5]; rfl
        have ST6 := Lib.hid st6
        have h512 : l4.length ≤ 512 := HI.out.ln ▸ HO.out.few
        have hl6 : l6.length = l4.length := by rw [HI.out.sl, HI.out.ln]
        have HL6 := Lib.hid hl6
        have hsx : (stamped x (came : Int)).k = x.k := rfl
        have hix : (stamped x (came : Int)).i = x.i := rfl
        have hmx : (stamped x (came : Int)).ml.h.sp = (came : Int) := rfl
        rw [hsx, hix] at HCS
        generalize (stamped x (came : Int)).ml = ml at *
        generalize x.k = xk at *
        generalize x.i = xi at *
        obtain ⟨q, hq⟩ : ∃ q, Int.tmod xk 9 = q := ⟨_, rfl⟩
        rw [hq] at HCS
        have hw7 : IntKind.i64.wrap ((came : Int) + 1) = (came : Int) + 1 := IntWalk.i64_in _ (by omega)
        have HHQ := Lib.hid hq
        clear hsx hix st6 k6 b6 l6' hk5 HDO HL4 HK5 H5 HW4 ST3 c9 z9 c19 HB4 HAC HK HS HR HLD hl6
        go_upto_region 14 with (refine wpList_store_run rfl 36 _ _ rfl ⟨w5.heap.size, 0, none⟩ _ rfl rfl ST6.out ?_)
        rcases HCS.out with ⟨⟨hq0, hq4⟩, ⟨rfl, hM⟩ | ⟨rfl, hM, h5⟩⟩ | ⟨rfl, hM, hr⟩ | ⟨rfl, ⟨rfl, hM, hin⟩ | ⟨rfl, hM⟩⟩ | ⟨hqd, ⟨rfl, hM, hin⟩ | ⟨rfl, hM, hin⟩⟩
        · skip
          as_aux_lemma =>
            have hq5 : ¬ (4 ≤ q) := by omega
            have HIV : Hid (Inv M' (l4 ++ [(came : Int)]) (l6 ++ [(came : Int)]) (came + 1)) := by rw [hM]; have := HI.out.more ml; rw [hmx] at this; exact this
            clear hM HI
            obtain ⟨A7, c7, w7, R7, O7⟩ := onr_append (came : Int) H6.out (by omega)
            obtain ⟨A8, c8, w8, R8, O8⟩ := onr_append (came : Int) O7.out.swap (by have := HL6.out; omega)
            have O9 : Hid (OnR w1 n M' (.slice A7 (l4 ++ [(came : Int)]).length c7) (l4 ++ [(came : Int)]) (.slice A8 (l6 ++ [(came : Int)]).length c8) (l6 ++ [(came : Int)]) w8) := by rw [List.length_append, List.length_append]; exact O8.out.swap
            clear O7 O8 H6
            go_wp2_with (first | (at_builtin; refine wpList_append_known _ rfl _ _ _ _ rfl (.slice A4 l4.length c4) (.slice (some ⟨w6.heap.size, 0, none⟩) 1 1) rfl rfl R7.out ?_) | (at_builtin; refine wpList_append_known _ rfl _ _ _ _ rfl (.slice A6 l6.length c6) (.slice (some ⟨w7.heap.size, 0, none⟩) 1 1) rfl rfl R8.out ?_))
            go_roundg (l.length - (i + 1))
            case measure => omega
            case rel => exact ⟨i + 1, came + 1, M', A7, A8, c7, c8, _, _, by omega, by go_num, by go_num, by simp, by simp, by omega, by omega, HIV, O9⟩
        · skip
          as_aux_lemma =>
            have hq5 : ¬ (4 ≤ q) := by omega
            subst hM
            have hL : Hid (M'.length = 512) := by have := HO.out.few; unfold Hid; omega
            go_wp2_with fail
            refine (onr_len H6 hL).mono ?_
            rintro e w7 ⟨rfl, rfl⟩
            go_wp2_with fail
            go_roundg (l.length - (i + 1))
            case measure => omega
            case rel => exact ⟨i + 1, came, M', A4, A6, c4, c6, l4, l6, by omega, by go_num, rfl, rfl, rfl, by omega, by omega, HI, H6⟩
        · skip
          as_aux_lemma =>
            subst hM
            have hq1 : ¬ ((4 : Int) < 4) := by omega
            rcases hr with rfl | ⟨rfl, hin⟩
            · go_wp2_with fail
              go_roundg (l.length - (i + 1))
              case measure => omega
              case rel => exact ⟨i + 1, came, M', A4, A6, c4, c6, l4, l6, by omega, by go_num, rfl, rfl, rfl, by omega, by omega, HI, H6⟩
            · have hin2 : xi < 0 ∨ 0 ≤ xi ∧ (l4.length : Int) ≤ xi := by unfold Net.In at hin; have := HI.out.ln; omega
              rcases hin2 with h0 | ⟨h0, h1⟩
              · go_wp2_with fail
                go_roundg (l.length - (i + 1))
                case measure => omega
                case rel => exact ⟨i + 1, came, M', A4, A6, c4, c6, l4, l6, by omega, by go_num, rfl, rfl, rfl, by omega, by omega, HI, H6⟩
              · go_wp2_with fail
                go_roundg (l.length - (i + 1))
                case measure => omega
                case rel => exact ⟨i + 1, came, M', A4, A6, c4, c6, l4, l6, by omega, by go_num, rfl, rfl, rfl, by omega, by omega, HI, H6⟩
        · skip
          as_aux_lemma =>
            obtain ⟨hi0, hi1⟩ := hin
            obtain ⟨k, rfl⟩ : ∃ k : Nat, xi = (k : Int) := ⟨xi.toNat, by omega⟩
            have hkM : k < M.length := by omega
            rw [Int.toNat_natCast, getD_at hkM] at hM
            have hk6 : k < l6.length := by rw [HI.out.sl]; exact hkM
            obtain ⟨s6, HS6⟩ : ∃ s6, Hid (l6.getD k 0 = s6) := ⟨_, rfl⟩
            have HIV : Hid (Inv M' (l4 ++ [(came : Int)]) (l6 ++ [s6]) (came + 1)) := by rw [hM, ← HS6.out, HI.out.sp hkM]; exact HI.out.more _
            obtain ⟨A7, c7, w7, R7, O7⟩ := onr_append (came : Int) H6.out (by omega)
            obtain ⟨g6, hg6⟩ : ∃ g6, A6 = some ⟨g6, 0, none⟩ := by
              rcases O7.out.r6.2 with ⟨hv, h0⟩ | ⟨g, cap, cur, hv, _⟩
              · omega
              · injection hv with e1 _ _
                exact ⟨g, e1⟩
            subst hg6
            have c6k : w7.cell? ⟨g6, k, none⟩ = some (.int .i64 s6) := by
              rw [World.ownsRow.cellAt O7.out.r6 k (by omega), List.getElem?_map, List.getElem?_eq_getElem hk6, ← HS6.out, List.getD, List.getElem?_eq_getElem hk6]; rfl
            obtain ⟨A8, c8, w8, R8, O8⟩ := onr_append s6 O7.out.swap (by have := HL6.out; omega)
            have O9 : Hid (OnR w1 n M' (.slice A7 (l4 ++ [(came : Int)]).length c7) (l4 ++ [(came : Int)]) (.slice A8 (l6 ++ [s6]).length c8) (l6 ++ [s6]) w8) := by rw [List.length_append, List.length_append]; exact O8.out.swap
            have hk7 : (k : Int) < (l6.length : Int) := by omega
            have hk8 : l6.length ≤ c6 := by
              obtain ⟨A, c, e, h⟩ := own_is_slice O7.out.r6
              injection e with _ _ e3
              omega
            clear O7 O8 H6 hM HI hkM hi0 hi1
            go_wp2_with (first | (at_builtin; refine wpList_append_known _ rfl _ _ _ _ rfl (.slice A4 l4.length c4) (.slice (some ⟨w6.heap.size, 0, none⟩) 1 1) rfl rfl R7.out ?_) | (at_builtin; refine wpList_append_known _ rfl _ _ _ _ rfl (.slice (some ⟨g6, 0, none⟩) l6.length c6) (.slice (some ⟨w7.heap.size, 0, none⟩) 1 1) rfl rfl R8.out ?_))
            go_roundg (l.length - (i + 1))
            case measure => omega
            case rel => exact ⟨i + 1, came + 1, M', A7, A8, c7, c8, _, _, by omega, by go_num, by go_num, by simp, by simp, by omega, by omega, HIV, O9⟩
        · skip
          as_aux_lemma =>
            subst hM
            go_wp2_with fail
            go_roundg (l.length - (i + 1))
            case measure => omega
            case rel => exact ⟨i + 1, came, M', A4, A6, c4, c6, l4, l6, by omega, by go_num, rfl, rfl, rfl, by omega, by omega, HI, H6⟩
        · skip
          as_aux_lemma =>
            have hq1 : ¬ (q < 4) := by omega
            have hq3 : (q == 7) = false := beq_eq_false_iff_ne.2 (by omega)
            have hq5 : (q == 4) = false := beq_eq_false_iff_ne.2 (by omega)
            clear hqd
            obtain ⟨hi0, hi1⟩ := hin
            obtain ⟨k, rfl⟩ : ∃ k : Nat, xi = (k : Int) := ⟨xi.toNat, by omega⟩
            have hkM : k < M.length := by omega
            rw [Int.toNat_natCast] at hM
            have hk4 : k < l4.length := by rw [HI.out.ln]; exact hkM
            have hk6 : k < l6.length := by rw [HI.out.sl]; exact hkM
            have HIV : Hid (Inv M' (l4.eraseIdx k) (l6.eraseIdx k) came) := by rw [hM]; exact HI.out.cut hkM
            have e4 : (l4.eraseIdx k).length = l4.length - 1 := List.length_eraseIdx_of_lt hk4
            have e6 : (l6.eraseIdx k).length = l6.length - 1 := List.length_eraseIdx_of_lt hk6
            have E4 := Lib.hid e4
            have E6 := Lib.hid e6
            obtain ⟨g4, hg4, hc4⟩ : ∃ g4, A4 = some ⟨g4, 0, none⟩ ∧ l4.length ≤ c4 := by
              rcases H6.out.r4.2 with ⟨hv, h0⟩ | ⟨g, cap, cur, hv, _, _, hnc, _⟩
              · omega
              · injection hv with e1 _ e3
                exact ⟨g, e1, by omega⟩
            obtain ⟨g6, hg6, hc6⟩ : ∃ g6, A6 = some ⟨g6, 0, none⟩ ∧ l6.length ≤ c6 := by
              rcases H6.out.r6.2 with ⟨hv, h0⟩ | ⟨g, cap, cur, hv, _, _, hnc, _⟩
              · omega
              · injection hv with e1 _ e3
                exact ⟨g, e1, by omega⟩
            subst hg4 hg6
            have h516 : l6.length ≤ 512 := by have := HL6.out; omega
            have f1 : (0 : Int) ≤ (k : Int) + 1 := by omega
            have f2 : IntKind.i64.wrap ((k : Int) + 1) = (k : Int) + 1 := IntWalk.i64_in _ (by omega)
            have f3 : (k : Int) + 1 ≤ (l4.length : Int) := by omega
            have f3' : (k : Int) + 1 ≤ (l6.length : Int) := by omega
            have f4 : (k : Int) ≤ (c4 : Int) := by omega
            have f4' : (k : Int) ≤ (c6 : Int) := by omega
            have f5 : ((k : Int) + 1).toNat = k + 1 := by omega
            have f6 : (k : Int) < (l4.length : Int) := by omega
            clear e4 e6 hM HI hkM hi0 hi1 HO
            go_upto_region 32 with fail
            go_cut [4] (fun u wx => ∃ A7 c7, u = .slice A7 (l4.length - 1) c7 ∧ Hid (OnR w1 n M' (.slice A7 (l4.length - 1) c7) (l4.eraseIdx k) (.slice (some ⟨g6, 0, none⟩) l6.length c6) l6 wx))
            case first =>
              as_aux_lemma =>
                have hd := H6.out.drewN 1
                by_cases hc : c4 = k + 1
                · obtain ⟨B1, e1, X1, B2, e2, X2, RA, RB, OC⟩ := onr_cut (a2 := ⟨g4, 0, none⟩) hd hk4 (by omega) (.inr (by omega)) c4 0
                  clear HIV E4 E6 HCS ST6 c0 HHQ hw7 HB1 hq1 hq3 hq5 hmx HL6 H6
                  subst hc
                  have f7 : (k : Int) ≤ (k : Int) + 1 := by omega
                  refine wp_region_held_drew (S := fun _ => True) (by kernel_rfl) trivial (fun hS0 => ?_)
                  refine wpAnyH_take (i := 1) (v := ?_) rfl (by kernel_rfl) (by kernel_rfl) (by kernel_rfl) (fun _ _ _ h => h) (Or.inl ⟨by rfl, ?_⟩) (by assumption) ?_
                  rotate_left
                  · intro X hX
                    go_simp
                    try with_reducible rfl
                  try simp only [Act.put, List.setIfInBounds_toArray, List.set_cons_zero, List.set_cons_succ, List.getElem_toArray, List.getElem_cons_succ, List.getElem_cons_zero]
                  refine wpAnyH_take (i := 2) (v := ?_) rfl (by kernel_rfl) (by kernel_rfl) (by kernel_rfl) (fun _ _ _ h => h) (Or.inl ⟨by rfl, ?_⟩) (by assumption) ?_
                  rotate_left
                  · intro X hX
                    go_simp
                    try with_reducible rfl
                  try simp only [Act.put, List.setIfInBounds_toArray, List.set_cons_zero, List.set_cons_succ, List.getElem_toArray, List.getElem_cons_succ, List.getElem_cons_zero]
                  refine wpAnyH_take (i := 3) (v := ?_) rfl (by kernel_rfl) (by kernel_rfl) (by kernel_rfl) (fun _ _ _ h => h) (Or.inl ⟨by rfl, ?_⟩) (by assumption) ?_
                  rotate_left
                  · intro X hX
                    go_simp
                    try with_reducible rfl
                  try simp only [Act.put, List.setIfInBounds_toArray, List.set_cons_zero, List.set_cons_succ, List.getElem_toArray, List.getElem_cons_succ, List.getElem_cons_zero]
                  refine wpAnyH_take (i := 5) (v := ?_) rfl (by kernel_rfl) (by kernel_rfl) (by kernel_rfl) (fun _ _ _ h => h) (Or.inl ⟨by rfl, ?_⟩) (by assumption) ?_
                  rotate_left
                  · intro X hX
                    go_simp
                    try with_reducible rfl
                  try simp only [Act.put, List.setIfInBounds_toArray, List.set_cons_zero, List.set_cons_succ, List.getElem_toArray, List.getElem_cons_succ, List.getElem_cons_zero]
                  refine wpAnyH_take (i := 6) (v := ?_) rfl (by kernel_rfl) (by kernel_rfl) (by kernel_rfl) (fun _ _ _ h => h) (Or.inl ⟨by rfl, ?_⟩) (by assumption) ?_
                  rotate_left
                  · intro X hX
                    go_simp
                    try with_reducible rfl
                  try simp only [Act.put, List.setIfInBounds_toArray, List.set_cons_zero, List.set_cons_succ, List.getElem_toArray, List.getElem_cons_succ, List.getElem_cons_zero]
                  refine wpAnyH_take (i := 7) (v := ?_) rfl (by kernel_rfl) (by kernel_rfl) (by kernel_rfl) (fun _ _ _ h => h) (Or.inl ⟨by rfl, ?_⟩) (by assumption) ?_
                  rotate_left
                  · intro X hX
                    go_simp
                    try with_reducible rfl
                  try simp only [Act.put, List.setIfInBounds_toArray, List.set_cons_zero, List.set_cons_succ, List.getElem_toArray, List.getElem_cons_succ, List.getElem_cons_zero]
                  refine wpAnyH_take (i := 8) (v := ?_) rfl (by kernel_rfl) (by kernel_rfl) (by kernel_rfl) (fun _ _ _ h => h) (Or.inl ⟨by rfl, ?_⟩) (by assumption) ?_
                  rotate_left
                  · intro X hX
                    go_simp
                    try with_reducible rfl
                  try simp only [Act.put, List.setIfInBounds_toArray, List.set_cons_zero, List.set_cons_succ, List.getElem_toArray, List.getElem_cons_succ, List.getElem_cons_zero]
                  refine wpAnyH_ready (rs := [0]) (by kernel_rfl) (by simp) (AllReadyH.cons rfl (fun K hK => ?_) AllReadyH.nil)
                  go_simp
                  go_wp2_with fail
                  refine hK.out _ _ ?_ (fun hHeld => ?_)
                  · with_reducible exact (trivial)
                  clear hK K
                  try simp only [Act.put, List.setIfInBounds_toArray, List.set_cons_zero, List.set_cons_succ, List.getElem_toArray, List.getElem_cons_succ, List.getElem_cons_zero]
                  refine wpAnyH_ready (rs := [4]) (by kernel_rfl) (by simp) (AllReadyH.cons rfl (fun K hK => ?_) AllReadyH.nil)
                  refine step_append_known rfl _ _ 54 54 rfl (.slice (some ⟨w6.drew.heap.size, 0, none⟩) 0 0) (.slice (some ⟨g4, 0, none⟩) k (k + 1)) (by simp [Act.eval]) (by simp [Act.eval]) RA.out ?_
                  go_wp2_with fail
                  refine hK.out _ _ ?_ (fun hHeld => ?_)
                  · with_reducible exact (trivial)
                  clear hK K
                  try simp only [Act.put, List.setIfInBounds_toArray, List.set_cons_zero, List.set_cons_succ, List.getElem_toArray, List.getElem_cons_succ, List.getElem_cons_zero]
                  refine wpAnyH_ready (rs := [9]) (by kernel_rfl) (by simp) (AllReadyH.cons rfl (fun K hK => ?_) AllReadyH.nil)
                  refine step_append_known rfl _ _ 54 54 rfl (.slice B1 k e1) (.slice (some ⟨g4, 0, none⟩) (l4.length - (k + 1)) 0) (by simp [Act.eval]) (by simp [Act.eval]; omega) RB.out ?_
                  go_wp2_with fail
                  refine hK.out _ _ ?_ (fun hHeld => ?_)
                  · with_reducible exact (trivial)
                  clear hK K
                  try simp only [Act.put, List.setIfInBounds_toArray, List.set_cons_zero, List.set_cons_succ, List.getElem_toArray, List.getElem_cons_succ, List.getElem_cons_zero]
                  refine wpAnyH_take (i := 10) (v := ?_) rfl (by kernel_rfl) (by kernel_rfl) (by kernel_rfl) (fun _ _ _ h => h) (Or.inl ⟨by rfl, ?_⟩) (by assumption) ?_
                  rotate_left
                  · intro X hX
                    go_simp
                    try with_reducible rfl
                  try simp only [Act.put, List.setIfInBounds_toArray, List.set_cons_zero, List.set_cons_succ, List.getElem_toArray, List.getElem_cons_succ, List.getElem_cons_zero]
                  refine wpAnyH_done (by kernel_rfl) ?_ _
                  go_wp2_with fail
                  go_meet
                  case rel => exact ⟨_, _, rfl, OC⟩
                · obtain ⟨B1, e1, X1, B2, e2, X2, RA, RB, OC⟩ := onr_cut (a2 := ⟨g4, k + 1, none⟩) hd hk4 (by omega) (.inl rfl) c4 (c4 - (k + 1))
                  clear HIV E4 E6 HCS ST6 c0 HHQ hw7 HB1 hq1 hq3 hq5 hmx HL6 H6
                  refine wp_region_held_drew (S := fun _ => True) (by kernel_rfl) trivial (fun hS0 => ?_)
                  refine wpAnyH_take (i := 1) (v := ?_) rfl (by kernel_rfl) (by kernel_rfl) (by kernel_rfl) (fun _ _ _ h => h) (Or.inl ⟨by rfl, ?_⟩) (by assumption) ?_
                  rotate_left
                  · intro X hX
                    go_simp
                    try with_reducible rfl
                  try simp only [Act.put, List.setIfInBounds_toArray, List.set_cons_zero, List.set_cons_succ, List.getElem_toArray, List.getElem_cons_succ, List.getElem_cons_zero]
                  refine wpAnyH_take (i := 2) (v := ?_) rfl (by kernel_rfl) (by kernel_rfl) (by kernel_rfl) (fun _ _ _ h => h) (Or.inl ⟨by rfl, ?_⟩) (by assumption) ?_
                  rotate_left
                  · intro X hX
                    go_simp
                    try with_reducible rfl
                  try simp only [Act.put, List.setIfInBounds_toArray, List.set_cons_zero, List.set_cons_succ, List.getElem_toArray, List.getElem_cons_succ, List.getElem_cons_zero]
                  refine wpAnyH_take (i := 3) (v := ?_) rfl (by kernel_rfl) (by kernel_rfl) (by kernel_rfl) (fun _ _ _ h => h) (Or.inl ⟨by rfl, ?_⟩) (by assumption) ?_
                  rotate_left
                  · intro X hX
                    go_simp
                    try with_reducible rfl
                  try simp only [Act.put, List.setIfInBounds_toArray, List.set_cons_zero, List.set_cons_succ, List.getElem_toArray, List.getElem_cons_succ, List.getElem_cons_zero]
                  refine wpAnyH_take (i := 5) (v := ?_) rfl (by kernel_rfl) (by kernel_rfl) (by kernel_rfl) (fun _ _ _ h => h) (Or.inl ⟨by rfl, ?_⟩) (by assumption) ?_
                  rotate_left
                  · intro X hX
                    go_simp
                    try with_reducible rfl
                  try simp only [Act.put, List.setIfInBounds_toArray, List.set_cons_zero, List.set_cons_succ, List.getElem_toArray, List.getElem_cons_succ, List.getElem_cons_zero]
                  refine wpAnyH_take (i := 6) (v := ?_) rfl (by kernel_rfl) (by kernel_rfl) (by kernel_rfl) (fun _ _ _ h => h) (Or.inl ⟨by rfl, ?_⟩) (by assumption) ?_
                  rotate_left
                  · intro X hX
                    go_simp
                    try with_reducible rfl
                  try simp only [Act.put, List.setIfInBounds_toArray, List.set_cons_zero, List.set_cons_succ, List.getElem_toArray, List.getElem_cons_succ, List.getElem_cons_zero]
                  refine wpAnyH_take (i := 7) (v := ?_) rfl (by kernel_rfl) (by kernel_rfl) (by kernel_rfl) (fun _ _ _ h => h) (Or.inl ⟨by rfl, ?_⟩) (by assumption) ?_
                  rotate_left
                  · intro X hX
                    go_simp
                    try with_reducible rfl
                  try simp only [Act.put, List.setIfInBounds_toArray, List.set_cons_zero, List.set_cons_succ, List.getElem_toArray, List.getElem_cons_succ, List.getElem_cons_zero]
                  refine wpAnyH_take (i := 8) (v := ?_) rfl (by kernel_rfl) (by kernel_rfl) (by kernel_rfl) (fun _ _ _ h => h) (Or.inl ⟨by rfl, ?_⟩) (by assumption) ?_
                  rotate_left
                  · intro X hX
                    go_simp
                    try with_reducible rfl
                  try simp only [Act.put, List.setIfInBounds_toArray, List.set_cons_zero, List.set_cons_succ, List.getElem_toArray, List.getElem_cons_succ, List.getElem_cons_zero]
                  refine wpAnyH_ready (rs := [0]) (by kernel_rfl) (by simp) (AllReadyH.cons rfl (fun K hK => ?_) AllReadyH.nil)
                  go_simp
                  go_wp2_with fail
                  refine hK.out _ _ ?_ (fun hHeld => ?_)
                  · with_reducible exact (trivial)
                  clear hK K
                  try simp only [Act.put, List.setIfInBounds_toArray, List.set_cons_zero, List.set_cons_succ, List.getElem_toArray, List.getElem_cons_succ, List.getElem_cons_zero]
                  refine wpAnyH_ready (rs := [4]) (by kernel_rfl) (by simp) (AllReadyH.cons rfl (fun K hK => ?_) AllReadyH.nil)
                  refine step_append_known rfl _ _ 54 54 rfl (.slice (some ⟨w6.drew.heap.size, 0, none⟩) 0 0) (.slice (some ⟨g4, 0, none⟩) k c4) (by simp [Act.eval]) (by simp [Act.eval]) RA.out ?_
                  go_wp2_with fail
                  refine hK.out _ _ ?_ (fun hHeld => ?_)
                  · with_reducible exact (trivial)
                  clear hK K
                  try simp only [Act.put, List.setIfInBounds_toArray, List.set_cons_zero, List.set_cons_succ, List.getElem_toArray, List.getElem_cons_succ, List.getElem_cons_zero]
                  refine wpAnyH_ready (rs := [9]) (by kernel_rfl) (by simp) (AllReadyH.cons rfl (fun K hK => ?_) AllReadyH.nil)
                  refine step_append_known rfl _ _ 54 54 rfl (.slice B1 k e1) (.slice (some ⟨g4, k + 1, none⟩) (l4.length - (k + 1)) (c4 - (k + 1))) (by simp [Act.eval]) (by simp [Act.eval]) RB.out ?_
                  go_wp2_with fail
                  refine hK.out _ _ ?_ (fun hHeld => ?_)
                  · with_reducible exact (trivial)
                  clear hK K
                  try simp only [Act.put, List.setIfInBounds_toArray, List.set_cons_zero, List.set_cons_succ, List.getElem_toArray, List.getElem_cons_succ, List.getElem_cons_zero]
                  refine wpAnyH_take (i := 10) (v := ?_) rfl (by kernel_rfl) (by kernel_rfl) (by kernel_rfl) (fun _ _ _ h => h) (Or.inl ⟨by rfl, ?_⟩) (by assumption) ?_
                  rotate_left
                  · intro X hX
                    go_simp
                    try with_reducible rfl
                  try simp only [Act.put, List.setIfInBounds_toArray, List.set_cons_zero, List.set_cons_succ, List.getElem_toArray, List.getElem_cons_succ, List.getElem_cons_zero]
                  refine wpAnyH_done (by kernel_rfl) ?_ _
                  go_wp2_with fail
                  go_meet
                  case rel => exact ⟨_, _, rfl, OC⟩
            case rest =>
              obtain ⟨A7, c7, rfl, H7⟩ := hcut
              go_upto_region 33 with fail
              have hd := H7.out.swap.drewN 1
              by_cases hc : c6 = k + 1
              · obtain ⟨B1, e1, X1, B2, e2, X2, RA, RB, OC⟩ := onr_cut (a2 := ⟨g6, 0, none⟩) hd hk6 (by omega) (.inr (by omega)) c6 0
                clear HCS ST6 c0 HHQ hw7 HB1 hq1 hq3 hq5 hmx HL6 H7 hd H6
                subst hc
                have f7 : (k : Int) ≤ (k : Int) + 1 := by omega
                refine wp_region_held_drew (S := fun _ => True) (by kernel_rfl) trivial (fun hS0 => ?_)
                refine wpAnyH_take (i := 1) (v := ?_) rfl (by kernel_rfl) (by kernel_rfl) (by kernel_rfl) (fun _ _ _ h => h) (Or.inl ⟨by rfl, ?_⟩) (by assumption) ?_
                rotate_left
                · intro X hX
                  go_simp
                  try with_reducible rfl
                try simp only [Act.put, List.setIfInBounds_toArray, List.set_cons_zero, List.set_cons_succ, List.getElem_toArray, List.getElem_cons_succ, List.getElem_cons_zero]
                refine wpAnyH_take (i := 2) (v := ?_) rfl (by kernel_rfl) (by kernel_rfl) (by kernel_rfl) (fun _ _ _ h => h) (Or.inl ⟨by rfl, ?_⟩) (by assumption) ?_
                rotate_left
                · intro X hX
                  go_simp
                  try with_reducible rfl
                try simp only [Act.put, List.setIfInBounds_toArray, List.set_cons_zero, List.set_cons_succ, List.getElem_toArray, List.getElem_cons_succ, List.getElem_cons_zero]
                refine wpAnyH_take (i := 3) (v := ?_) rfl (by kernel_rfl) (by kernel_rfl) (by kernel_rfl) (fun _ _ _ h => h) (Or.inl ⟨by rfl, ?_⟩) (by assumption) ?_
                rotate_left
                · intro X hX
                  go_simp
                  try with_reducible rfl
                try simp only [Act.put, List.setIfInBounds_toArray, List.set_cons_zero, List.set_cons_succ, List.getElem_toArray, List.getElem_cons_succ, List.getElem_cons_zero]
                refine wpAnyH_take (i := 5) (v := ?_) rfl (by kernel_rfl) (by kernel_rfl) (by kernel_rfl) (fun _ _ _ h => h) (Or.inl ⟨by rfl, ?_⟩) (by assumption) ?_
                rotate_left
                · intro X hX
                  go_simp
                  try with_reducible rfl
                try simp only [Act.put, List.setIfInBounds_toArray, List.set_cons_zero, List.set_cons_succ, List.getElem_toArray, List.getElem_cons_succ, List.getElem_cons_zero]
                refine wpAnyH_take (i := 6) (v := ?_) rfl (by kernel_rfl) (by kernel_rfl) (by kernel_rfl) (fun _ _ _ h => h) (Or.inl ⟨by rfl, ?_⟩) (by assumption) ?_
                rotate_left
                · intro X hX
                  go_simp
                  try with_reducible rfl
                try simp only [Act.put, List.setIfInBounds_toArray, List.set_cons_zero, List.set_cons_succ, List.getElem_toArray, List.getElem_cons_succ, List.getElem_cons_zero]
                refine wpAnyH_take (i := 7) (v := ?_) rfl (by kernel_rfl) (by kernel_rfl) (by kernel_rfl) (fun _ _ _ h => h) (Or.inl ⟨by rfl, ?_⟩) (by assumption) ?_
                rotate_left
                · intro X hX
                  go_simp
                  try with_reducible rfl
                try simp only [Act.put, List.setIfInBounds_toArray, List.set_cons_zero, List.set_cons_succ, List.getElem_toArray, List.getElem_cons_succ, List.getElem_cons_zero]
                refine wpAnyH_take (i := 8) (v := ?_) rfl (by kernel_rfl) (by kernel_rfl) (by kernel_rfl) (fun _ _ _ h => h) (Or.inl ⟨by rfl, ?_⟩) (by assumption) ?_
                rotate_left
                · intro X hX
                  go_simp
                  try with_reducible rfl
                try simp only [Act.put, List.setIfInBounds_toArray, List.set_cons_zero, List.set_cons_succ, List.getElem_toArray, List.getElem_cons_succ, List.getElem_cons_zero]
                refine wpAnyH_ready (rs := [0]) (by kernel_rfl) (by simp) (AllReadyH.cons rfl (fun K hK => ?_) AllReadyH.nil)
                go_simp
                go_wp2_with fail
                refine hK.out _ _ ?_ (fun hHeld => ?_)
                · with_reducible exact (trivial)
                clear hK K
                try simp only [Act.put, List.setIfInBounds_toArray, List.set_cons_zero, List.set_cons_succ, List.getElem_toArray, List.getElem_cons_succ, List.getElem_cons_zero]
                refine wpAnyH_ready (rs := [4]) (by kernel_rfl) (by simp) (AllReadyH.cons rfl (fun K hK => ?_) AllReadyH.nil)
                refine step_append_known rfl _ _ 54 54 rfl (.slice (some ⟨wc.drew.heap.size, 0, none⟩) 0 0) (.slice (some ⟨g6, 0, none⟩) k (k + 1)) (by simp [Act.eval]) (by simp [Act.eval]) RA.out ?_
                go_wp2_with fail
                refine hK.out _ _ ?_ (fun hHeld => ?_)
                · with_reducible exact (trivial)
                clear hK K
                try simp only [Act.put, List.setIfInBounds_toArray, List.set_cons_zero, List.set_cons_succ, List.getElem_toArray, List.getElem_cons_succ, List.getElem_cons_zero]
                refine wpAnyH_ready (rs := [9]) (by kernel_rfl) (by simp) (AllReadyH.cons rfl (fun K hK => ?_) AllReadyH.nil)
                refine step_append_known rfl _ _ 54 54 rfl (.slice B1 k e1) (.slice (some ⟨g6, 0, none⟩) (l6.length - (k + 1)) 0) (by simp [Act.eval]) (by simp [Act.eval]; omega) RB.out ?_
                go_wp2_with fail
                refine hK.out _ _ ?_ (fun hHeld => ?_)
                · with_reducible exact (trivial)
                clear hK K
                try simp only [Act.put, List.setIfInBounds_toArray, List.set_cons_zero, List.set_cons_succ, List.getElem_toArray, List.getElem_cons_succ, List.getElem_cons_zero]
                refine wpAnyH_take (i := 10) (v := ?_) rfl (by kernel_rfl) (by kernel_rfl) (by kernel_rfl) (fun _ _ _ h => h) (Or.inl ⟨by rfl, ?_⟩) (by assumption) ?_
                rotate_left
                · intro X hX
                  go_simp
                  try with_reducible rfl
                try simp only [Act.put, List.setIfInBounds_toArray, List.set_cons_zero, List.set_cons_succ, List.getElem_toArray, List.getElem_cons_succ, List.getElem_cons_zero]
                refine wpAnyH_done (by kernel_rfl) ?_ _
                go_wp2_with fail
                clear RA RB
                have O9 : Hid (OnR w1 n M' (.slice A7 (l4.eraseIdx k).length c7) (l4.eraseIdx k) (.slice B2 (l6.eraseIdx k).length e2) (l6.eraseIdx k) X2) := by rw [E4.out, E6.out]; exact OC.out.swap
                go_roundg (l.length - (i + 1))
                case measure => omega
                case rel => exact ⟨i + 1, came, M', A7, B2, c7, e2, _, _, by omega, by go_num, rfl, by rw [E4.out], by rw [E6.out], by omega, by omega, HIV, O9⟩
              · obtain ⟨B1, e1, X1, B2, e2, X2, RA, RB, OC⟩ := onr_cut (a2 := ⟨g6, k + 1, none⟩) hd hk6 (by omega) (.inl rfl) c6 (c6 - (k + 1))
                clear HCS ST6 c0 HHQ hw7 HB1 hq1 hq3 hq5 hmx HL6 H7 hd H6
                refine wp_region_held_drew (S := fun _ => True) (by kernel_rfl) trivial (fun hS0 => ?_)
                refine wpAnyH_take (i := 1) (v := ?_) rfl (by kernel_rfl) (by kernel_rfl) (by kernel_rfl) (fun _ _ _ h => h) (Or.inl ⟨by rfl, ?_⟩) (by assumption) ?_
                rotate_left
                · intro X hX
                  go_simp
                  try with_reducible rfl
                try simp only [Act.put, List.setIfInBounds_toArray, List.set_cons_zero, List.set_cons_succ, List.getElem_toArray, List.getElem_cons_succ, List.getElem_cons_zero]
                refine wpAnyH_take (i := 2) (v := ?_) rfl (by kernel_rfl) (by kernel_rfl) (by kernel_rfl) (fun _ _ _ h => h) (Or.inl ⟨by rfl, ?_⟩) (by assumption) ?_
                rotate_left
                · intro X hX
                  go_simp
                  try with_reducible rfl
                try simp only [Act.put, List.setIfInBounds_toArray, List.set_cons_zero, List.set_cons_succ, List.getElem_toArray, List.getElem_cons_succ, List.getElem_cons_zero]
                refine wpAnyH_take (i := 3) (v := ?_) rfl (by kernel_rfl) (by kernel_rfl) (by kernel_rfl) (fun _ _ _ h => h) (Or.inl ⟨by rfl, ?_⟩) (by assumption) ?_
                rotate_left
                · intro X hX
                  go_simp
                  try with_reducible rfl
                try simp only [Act.put, List.setIfInBounds_toArray, List.set_cons_zero, List.set_cons_succ, List.getElem_toArray, List.getElem_cons_succ, List.getElem_cons_zero]
                refine wpAnyH_take (i := 5) (v := ?_) rfl (by kernel_rfl) (by kernel_rfl) (by kernel_rfl) (fun _ _ _ h => h) (Or.inl ⟨by rfl, ?_⟩) (by assumption) ?_
                rotate_left
                · intro X hX
                  go_simp
                  try with_reducible rfl
                try simp only [Act.put, List.setIfInBounds_toArray, List.set_cons_zero, List.set_cons_succ, List.getElem_toArray, List.getElem_cons_succ, List.getElem_cons_zero]
                refine wpAnyH_take (i := 6) (v := ?_) rfl (by kernel_rfl) (by kernel_rfl) (by kernel_rfl) (fun _ _ _ h => h) (Or.inl ⟨by rfl, ?_⟩) (by assumption) ?_
                rotate_left
                · intro X hX
                  go_simp
                  try with_reducible rfl
                try simp only [Act.put, List.setIfInBounds_toArray, List.set_cons_zero, List.set_cons_succ, List.getElem_toArray, List.getElem_cons_succ, List.getElem_cons_zero]
                refine wpAnyH_take (i := 7) (v := ?_) rfl (by kernel_rfl) (by kernel_rfl) (by kernel_rfl) (fun _ _ _ h => h) (Or.inl ⟨by rfl, ?_⟩) (by assumption) ?_
                rotate_left
                · intro X hX
                  go_simp
                  try with_reducible rfl
                try simp only [Act.put, List.setIfInBounds_toArray, List.set_cons_zero, List.set_cons_succ, List.getElem_toArray, List.getElem_cons_succ, List.getElem_cons_zero]
                refine wpAnyH_take (i := 8) (v := ?_) rfl (by kernel_rfl) (by kernel_rfl) (by kernel_rfl) (fun _ _ _ h => h) (Or.inl ⟨by rfl, ?_⟩) (by assumption) ?_
                rotate_left
                · intro X hX
                  go_simp
                  try with_reducible rfl
                try simp only [Act.put, List.setIfInBounds_toArray, List.set_cons_zero, List.set_cons_succ, List.getElem_toArray, List.getElem_cons_succ, List.getElem_cons_zero]
                refine wpAnyH_ready (rs := [0]) (by kernel_rfl) (by simp) (AllReadyH.cons rfl (fun K hK => ?_) AllReadyH.nil)
                go_simp
                go_wp2_with fail
                refine hK.out _ _ ?_ (fun hHeld => ?_)
                · with_reducible exact (trivial)
                clear hK K
                try simp only [Act.put, List.setIfInBounds_toArray, List.set_cons_zero, List.set_cons_succ, List.getElem_toArray, List.getElem_cons_succ, List.getElem_cons_zero]
                refine wpAnyH_ready (rs := [4]) (by kernel_rfl) (by simp) (AllReadyH.cons rfl (fun K hK => ?_) AllReadyH.nil)
                refine step_append_known rfl _ _ 54 54 rfl (.slice (some ⟨wc.drew.heap.size, 0, none⟩) 0 0) (.slice (some ⟨g6, 0, none⟩) k c6) (by simp [Act.eval]) (by simp [Act.eval]) RA.out ?_
                go_wp2_with fail
                refine hK.out _ _ ?_ (fun hHeld => ?_)
                · with_reducible exact (trivial)
                clear hK K
                try simp only [Act.put, List.setIfInBounds_toArray, List.set_cons_zero, List.set_cons_succ, List.getElem_toArray, List.getElem_cons_succ, List.getElem_cons_zero]
                refine wpAnyH_ready (rs := [9]) (by kernel_rfl) (by simp) (AllReadyH.cons rfl (fun K hK => ?_) AllReadyH.nil)
                refine step_append_known rfl _ _ 54 54 rfl (.slice B1 k e1) (.slice (some ⟨g6, k + 1, none⟩) (l6.length - (k + 1)) (c6 - (k + 1))) (by simp [Act.eval]) (by simp [Act.eval]) RB.out ?_
                go_wp2_with fail
                refine hK.out _ _ ?_ (fun hHeld => ?_)
                · with_reducible exact (trivial)
                clear hK K
                try simp only [Act.put, List.setIfInBounds_toArray, List.set_cons_zero, List.set_cons_succ, List.getElem_toArray, List.getElem_cons_succ, List.getElem_cons_zero]
                refine wpAnyH_take (i := 10) (v := ?_) rfl (by kernel_rfl) (by kernel_rfl) (by kernel_rfl) (fun _ _ _ h => h) (Or.inl ⟨by rfl, ?_⟩) (by assumption) ?_
                rotate_left
                · intro X hX
                  go_simp
                  try with_reducible rfl
                try simp only [Act.put, List.setIfInBounds_toArray, List.set_cons_zero, List.set_cons_succ, List.getElem_toArray, List.getElem_cons_succ, List.getElem_cons_zero]
                refine wpAnyH_done (by kernel_rfl) ?_ _
                go_wp2_with fail
                clear RA RB
                have O9 : Hid (OnR w1 n M' (.slice A7 (l4.eraseIdx k).length c7) (l4.eraseIdx k) (.slice B2 (l6.eraseIdx k).length e2) (l6.eraseIdx k) X2) := by rw [E4.out, E6.out]; exact OC.out.swap
                go_roundg (l.length - (i + 1))
                case measure => omega
                case rel => exact ⟨i + 1, came, M', A7, B2, c7, e2, _, _, by omega, by go_num, rfl, by rw [E4.out], by rw [E6.out], by omega, by omega, HIV, O9⟩
        · skip
          as_aux_lemma =>
            subst hM
            have hq1 : ¬ (q < 4) := by omega
            have hq2 : 4 ≤ q := by omega
            have hq3 : (q == 7) = false := beq_eq_false_iff_ne.2 (by omega)
            have hin2 : xi < 0 ∨ 0 ≤ xi ∧ (l4.length : Int) ≤ xi := by unfold Net.In at hin; have := HI.out.ln; omega
            rcases hin2 with h0 | ⟨h0, h1⟩
            · go_wp2_with fail
              go_roundg (l.length - (i + 1))
              case measure => omega
              case rel => exact ⟨i + 1, came, M', A4, A6, c4, c6, l4, l6, by omega, by go_num, rfl, rfl, rfl, by omega, by omega, HI, H6⟩
            · go_wp2_with fail
              go_roundg (l.length - (i + 1))
              case measure => omega
              case rel => exact ⟨i + 1, came, M', A4, A6, c4, c6, l4, l6, by omega, by go_num, rfl, rfl, rfl, by omega, by omega, HI, H6⟩
      · obtain rfl : i = l.length := by omega
        have hlk : ¬ ((l.length : Int) < (l.length : Int)) := by omega
        have HBW := Lib.hid HO.out.bel
        clear HK HS HR
        go_wp2_with fail
        refine (onr_all HO).mono ?_
        rintro e w3 ⟨A3, c3, ms, rfl, HMS, HEQ, HFR, HBL⟩
        have HO3 := Lib.hid (HO.out.below HBL.out)
        have hs6 : l6.length = M.length := HI.out.sl
        have hs4 : l4.length = M.length := HI.out.ln
        have hNeq : ((M.length : Int) == (l6.length : Int)) = true := beq_iff_eq.2 (by omega)
        have hms : ms.length = M.length := by rw [← HEQ.out, List.length_map]
        have HC : Hid (∀ j, j < M.length → ∃ (g3 g6 g4 : Nat) (s : Int), A3 = some ⟨g3, 0, none⟩ ∧ A6 = some ⟨g6, 0, none⟩ ∧ A4 = some ⟨g4, 0, none⟩ ∧ w3.cell? ⟨g3, j * 18 + 8, none⟩ = some (.int .i64 s) ∧ w3.cell? ⟨g6, j, none⟩ = some (.int .i64 s) ∧ w3.cell? ⟨g4, j, none⟩ = some (.int .i64 (l4.getD j 0)) ∧ ∀ j', j = j' + 1 → w3.cell? ⟨g4, j', none⟩ = some (.int .i64 (l4.getD j' 0)) ∧ l4.getD j' 0 < l4.getD j 0) := fun j hj => by
          obtain ⟨g3, cc, hv3, _, _, _, hc3, _⟩ := HMS.out.at_ (i := j) (by omega)
          injection hv3 with a3 _ _
          have q8 := hc3 8 (by omega)
          obtain ⟨g6, hg6⟩ : ∃ g6, A6 = some ⟨g6, 0, none⟩ := by
            rcases HO3.out.r6.2 with ⟨hv, h0⟩ | ⟨g, cap, cur, hv, _⟩
            · omega
            · injection hv with e1 _ _
              exact ⟨g, e1⟩
          obtain ⟨g4, hg4⟩ : ∃ g4, A4 = some ⟨g4, 0, none⟩ := by
            rcases HO3.out.r4.2 with ⟨hv, h0⟩ | ⟨g, cap, cur, hv, _⟩
            · omega
            · injection hv with e1 _ _
              exact ⟨g, e1⟩
          subst hg6 hg4
          have m6 : ∀ t, t < M.length → w3.cell? ⟨g6, t, none⟩ = some (.int .i64 (l6.getD t 0)) := fun t ht => by
            rw [World.ownsRow.cellAt HO3.out.r6 t (by omega), List.getElem?_map, List.getD, List.getElem?_eq_getElem (by omega)]; rfl
          have m4 : ∀ t, t < M.length → w3.cell? ⟨g4, t, none⟩ = some (.int .i64 (l4.getD t 0)) := fun t ht => by
            rw [World.ownsRow.cellAt HO3.out.r4 t (by omega), List.getElem?_map, List.getD, List.getElem?_eq_getElem (by omega)]; rfl
          have hsp : (ms[j]'(by omega)).h.sp = l6.getD j 0 := by
            rw [HI.out.sp hj]
            have h1 : (ms.map MM.ml)[j]? = M[j]? := by rw [HEQ.out]
            rw [List.getElem?_map, List.getElem?_eq_getElem (by omega), List.getElem?_eq_getElem hj] at h1
            exact congrArg (fun m => m.h.sp) (Option.some.inj h1)
          refine ⟨g3, g6, g4, l6.getD j 0, a3, rfl, rfl, ?_, m6 j hj, m4 j hj, fun j' e => ⟨m4 j' (by omega), ?_⟩⟩
          · rw [q8, ← hsp]; rfl
          · have hp := List.pairwise_iff_getElem.1 HI.out.up j' j (by omega) (by omega) (by omega)
            rw [List.getD, List.getD, List.getElem?_eq_getElem (by omega), List.getElem?_eq_getElem (by omega)]
            exact hp
        have hN5 : M.length ≤ 512 := HO.out.few
        have HFIN : Hid (Below w.heap.size w w3) := HB1.out.trans ((HBW.out.trans (HBL.out.mono HBW.out.size)).mono HB1.out.size)
        have hc6 : M.length ≤ c6 := by
          obtain ⟨A, c, e, h⟩ := own_is_slice HO3.out.r6
          injection e with _ _ e3
          omega
        clear HMS HEQ HFR HBL HO3 HI hms HO
        generalize M.length = N at *
        generalize hn6 : l6.length = N6 at *
        generalize hn4 : l4.length = N4 at *
        clear hn6 hn4
        obtain rfl : N6 = N := hs6
        obtain rfl : N4 = N6 := hs4
        go_wp2_with fail
        go_loopg [15] N4 (fun kx s15 wr => ∃ j : Nat, j ≤ N4 ∧ s15 = .int .i64 (j : Int) ∧ N4 - j ≤ kx ∧ Still w3 wr)
        case atStart => exact ⟨0, Nat.zero_le _, rfl, by omega, Still.refl _⟩
        case round =>
          obtain ⟨j, hj, rfl, hjk, hst⟩ := hrel
          by_cases hjN : j < N4
          · obtain ⟨g3, g6, g4, s, rfl, rfl, rfl, q1, q2, q3, q4⟩ := HC.out j hjN
            have q1 := (hst.cell ⟨g3, j * 18 + 8, none⟩).trans q1
            have q2 := (hst.cell ⟨g6, j, none⟩).trans q2
            have q3 := (hst.cell ⟨g4, j, none⟩).trans q3
            have hjl : (j : Int) < (N4 : Int) := by omega
            rcases j with _ | j'
            · clear q4 HC q3
              go_wp2_with fail
              go_quiet (fail)
              go_wp2_with fail
              go_roundg (N4 - (0 + 1))
              case measure => omega
              case rel => exact ⟨1, by omega, by go_num, by omega, hst.drewN _⟩
            · obtain ⟨q4, q5⟩ := q4 j' rfl
              have q4 := (hst.cell ⟨g4, j', none⟩).trans q4
              obtain ⟨j, hj'⟩ : ∃ j, j = j' + 1 := ⟨_, rfl⟩
              rw [← hj'] at q1 q2 q3 q5 hjl hjN hjk
              have hJ := Lib.hid hj'
              have d1 : (0 : Int) < (j : Int) := by omega
              have dn : 0 < j := by omega
              have d0 : decide (0 < j) = true := decide_eq_true dn
              have d2 : IntKind.i64.wrap ((j : Int) - 1) = (j' : Int) := by rw [IntWalk.i64_in _ (by omega)]; omega
              have d3 : (j' : Int) < (N4 : Int) := by omega
              have d4 : decide (l4.getD j 0 ≤ l4.getD j' 0) = false := decide_eq_false (by omega)
              rw [← hj']
              generalize l4.getD j 0 = y1 at *
              generalize l4.getD j' 0 = y2 at *
              clear HC hj' hj q5
              go_wp2_with fail
              go_quiet (fail)
              go_wp2_with fail
              go_roundg (N4 - (j + 1))
              case measure => omega
              case rel => exact ⟨j + 1, by omega, by go_num, by omega, hst.drewN _⟩
          · have hjl : ¬ ((j : Int) < (N4 : Int)) := by omega
            go_wp2_with fail
            refine (works_any wr).mono ?_
            rintro e w5 ⟨rfl, hb5⟩
            go_wp2_with fail
            go_ret
            exact ⟨rfl, HFIN.out.trans ((hst _).trans (hb5.mono (Nat.le_trans HFIN.out.size (hst 0).size)))⟩
end Go.Proofs.Ytlejlmlgcehjiaa.netsOrderW
