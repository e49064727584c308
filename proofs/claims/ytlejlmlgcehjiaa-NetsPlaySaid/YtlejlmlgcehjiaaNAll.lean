/-
  All: every message, in new memory.
-/
import Derived.Test.YtlejlmlgcehjiaaNAtCalls
import Derived.Laws.OwnMore
import Derived.Deep.LoopGhost
import Derived.Deep.DeepCutAuto
namespace Go.Proofs.Ytlejlmlgcehjiaa
open Go.RowKit
def mm0 : MM := ⟨Net.hd0, .slice none 0 0, []⟩
theorem made_mails (n : Nat) : (madeCells (mval Net.hd0 (.slice none 0 0)).cells (n * 18)).toList = mcs (List.replicate n mm0) := by
  apply List.ext_getElem?
  intro j
  by_cases hj : j < n * 18
  · have h1 : j / 18 < n := by omega
    have h2 : j % 18 < 18 := by omega
    have h := mcs_at (List.replicate n mm0) (i := j / 18) (by simpa using h1) (j := j % 18) h2
    rw [show j / 18 * 18 + j % 18 = j by omega, List.getElem_replicate] at h
    rw [h]
    have hc : (mval Net.hd0 (.slice none 0 0)).cells = (mm0.cells).toArray := rfl
    have hs : mm0.cells.toArray.size = 18 := rfl
    have hl : mm0.cells.length = 18 := rfl
    rw [hc]
    simp only [madeCells, hs, Array.getElem?_toList, Array.getElem?_map]
    rw [Array.getElem?_eq_getElem (by simpa using hj)]
    simp only [Array.getElem_range, Option.map_some]
    rw [List.getElem?_eq_getElem (by rw [hl]; exact h2), getElem!_pos _ _ (by rw [hs]; exact h2)]
    simp
  · rw [List.getElem?_eq_none (by simp [size_madeCells]; omega), List.getElem?_eq_none (by rw [mcs_len, List.length_replicate]; omega)]
theorem mcs_set (ms : List MM) {i : Nat} (hi : i < ms.length) (m : MM) : mcs (ms.set i m) = (mcs ms).take (i * 18) ++ m.cells ++ (mcs ms).drop (i * 18 + 18) := by
  rw [List.set_eq_take_append_cons_drop, if_pos hi, show i * 18 + 18 = (i + 1) * 18 by omega, (mcs_take ms i (by omega)).1, (mcs_take ms (i + 1) hi).2]
  simp [mcs]
theorem put_take (cur X : List Value) (o N : Nat) (hX : X.length = 18) (ho : o + 18 ≤ N) (hN : N ≤ cur.length) : (cur.take o ++ X ++ cur.drop (o + 18)).take N = (cur.take N).take o ++ X ++ (cur.take N).drop (o + 18) := by
  have hA : (cur.take o ++ X).length = o + 18 := by rw [List.length_append, List.length_take, hX]; omega
  rw [List.take_append, List.take_of_length_le (by omega), hA, List.take_take, Nat.min_eq_left (by omega), List.drop_take]
/-- Another message in the place of one. -/
theorem Mails.put {w : World} {g L c : Nat} {ms : List MM} (h : Mails w (.slice (some ⟨g, 0, none⟩) L c) ms) {i : Nat} (hi : i < ms.length) (hd : Net.Hd) (A : Option Addr) (n c' : Nat) (es : List Net.Ent) (hE : EOwn w 0 (.slice A n c') es) (hl : es.length ≤ 100000)
    (hfr : ∀ k, (Value.slice A n c').ownBlock = some k → ¬ OfMails (.slice (some ⟨g, 0, none⟩) L c) ms k) :
    ∃ w', (storeVar 36 ⟨g, i * 18, none⟩ (.agg (mcells hd (.slice A n c')).toArray)).run Try.prog w = .ok () w' ∧ Mails w' (.slice (some ⟨g, 0, none⟩) L c) (ms.set i ⟨hd, .slice A n c', es⟩) ∧ Foot (fun k => k = g) w w' := by
  have hr := h.row
  rcases hr.2 with ⟨hv, h0⟩ | ⟨g', cap, cur, hv, hb, hg, hnc, hcm, hcs, ht⟩
  · cases hv
  injection hv with hv1 hv2 hv3
  injection hv1 with hv1
  injection hv1 with hv1
  subst hv1; subst hv3
  have hst := store_mail_at (W := w) (o := i * 18) hd A n c' hg (by rw [hcs]; omega)
  refine ⟨_, hst, ?_, Foot.row (fun k => k = g) w g _ rfl⟩
  have hf := Foot.row (fun k => k = g) w g (cur.toList.take (i * 18) ++ mcells hd (.slice A n c') ++ cur.toList.drop (i * 18 + 18)).toArray rfl
  have hl18 : (mcells hd (.slice A n c')).length = 18 := rfl
  have mem : ∀ f ∈ ms.set i ⟨hd, .slice A n c', es⟩, f = ⟨hd, .slice A n c', es⟩ ∨ ∃ j, ∃ hj : j < ms.length, j ≠ i ∧ f = ms[j] := fun f hf => by
    obtain ⟨j, hj, rfl⟩ := List.getElem_of_mem hf
    rw [List.length_set] at hj
    by_cases hji : i = j
    · subst hji; left; simp
    · right; exact ⟨j, hj, fun e => hji e.symm, by rw [List.getElem_set_ne hji]⟩
  refine ⟨?_, fun f hf' => ?_, fun f hf' => ?_, ?_, fun f hf' k e1 e2 => ?_⟩
  · rw [List.length_set, mcs_set ms hi]
    refine ⟨by simp only [List.length_append, List.length_take, List.length_drop, mcs_len]; show _ + 18 + _ = _; omega, .inr ⟨g, c, _, by rw [hv2], hb, setRow_heap w g _ _ _ _ hg, hnc, hcm, ?_, ?_⟩⟩
    · simp only [List.size_toArray, List.length_append, List.length_take, List.length_drop, Array.length_toList, hl18, hcs]; omega
    · show List.take _ (_ ++ mcells hd (.slice A n c') ++ _) = _ ++ mcells hd (.slice A n c') ++ _
      rw [put_take _ _ _ _ hl18 (by omega) (by have h9 := Array.length_toList (xs := cur); omega), ht]
  · rcases mem f hf' with rfl | ⟨j, hj, _, rfl⟩
    · exact hE.foot hf fun k e1 e2 => hfr k e1 (.inl (by rw [e2]; rfl))
    · exact (h.own _ (List.getElem_mem hj)).foot hf fun k e1 e2 => h.off _ (List.getElem_mem hj) k e1 (by rw [e2]; rfl)
  · rcases mem f hf' with rfl | ⟨j, hj, _, rfl⟩
    · exact hl
    · exact h.few _ (List.getElem_mem hj)
  · refine List.pairwise_iff_getElem.2 fun a b ha hb' hab => ?_
    have hap := List.pairwise_iff_getElem.1 h.apart
    rw [List.length_set] at ha hb'
    by_cases hai : i = a
    · subst hai
      rw [List.getElem_set_self, List.getElem_set_ne (by omega)]
      exact fun k e1 e2 => hfr k e1 (.inr ⟨_, List.getElem_mem hb', e2⟩)
    · by_cases hbi : i = b
      · subst hbi
        rw [List.getElem_set_self, List.getElem_set_ne hai]
        exact fun k e1 e2 => hfr k e2 (.inr ⟨_, List.getElem_mem ha, e1⟩)
      · rw [List.getElem_set_ne hai, List.getElem_set_ne hbi]
        exact hap a b ha hb' hab
  · rcases mem f hf' with rfl | ⟨j, hj, _, rfl⟩
    · exact hfr k e1 (.inl e2)
    · exact h.off _ (List.getElem_mem hj) k e1 e2
/-- What All answers. -/
def AllPost (M : List Net.Ml) (w : World) (e : Ending) (w' : World) : Prop := ∃ A c ms, e = .returned (.slice A M.length c) ∧ Hid (Mails w' (.slice A M.length c) ms) ∧ Hid (ms.map MM.ml = M) ∧ Hid (∀ k, OfMails (.slice A M.length c) ms k → w.heap.size ≤ k) ∧ Hid (Below w.heap.size w w')
/-- On the way: k messages are laid. -/
def AllAt (M : List Net.Ml) (w : World) (g k : Nat) (wx : World) : Prop := ∃ ts, ts.map MM.ml = M.take k ∧ ts.length = k ∧ Mails wx (.slice (some ⟨g, 0, none⟩) M.length M.length) (ts ++ List.replicate (M.length - k) mm0) ∧ (∀ j, OfMails (.slice (some ⟨g, 0, none⟩) M.length M.length) (ts ++ List.replicate (M.length - k) mm0) j → w.heap.size ≤ j) ∧ Below w.heap.size w wx
theorem AllAt.next {M : List Net.Ml} {w wx W1 : World} {g k : Nat} {A : Option Addr} {c : Nat} (h : AllAt M w g k wx) (hk : k < M.length) (hl : M[k].es.length ≤ 100000) (hE : EOwn W1 wx.heap.size (.slice A M[k].es.length c) M[k].es) (hB : Below wx.heap.size wx W1) :
    ∃ W2, (storeVar 36 ⟨g, k * 18, none⟩ (.agg (mcells M[k].h (.slice A M[k].es.length c)).toArray)).run Try.prog W1 = .ok () W2 ∧ AllAt M w g (k + 1) W2 := by
  obtain ⟨ts, h1, h2, h3, h4, h5⟩ := h
  have hM := h3.below hB
  have hlen : k < (ts ++ List.replicate (M.length - k) mm0).length := by rw [List.length_append, List.length_replicate]; omega
  obtain ⟨W2, r1, r2, r3⟩ := hM.put hlen M[k].h A M[k].es.length c M[k].es (hE.base (Nat.zero_le _)) hl (fun j e1 e2 => by have := h3.lt e2; have := (hE.lt e1).1; omega)
  have hset : (ts ++ List.replicate (M.length - k) mm0).set k ⟨M[k].h, .slice A M[k].es.length c, M[k].es⟩ = (ts ++ [⟨M[k].h, .slice A M[k].es.length c, M[k].es⟩]) ++ List.replicate (M.length - (k + 1)) mm0 := by
    obtain ⟨m, hm⟩ : ∃ m, M.length - k = m + 1 := ⟨M.length - k - 1, by omega⟩
    rw [hm, show M.length - (k + 1) = m by omega, List.replicate_succ, List.set_append_right _ _ (by omega), h2, Nat.sub_self, List.set_cons_zero]
    simp
  rw [hset] at r2
  have hof : ∀ j, OfMails (.slice (some ⟨g, 0, none⟩) M.length M.length) ((ts ++ [⟨M[k].h, .slice A M[k].es.length c, M[k].es⟩]) ++ List.replicate (M.length - (k + 1)) mm0) j → w.heap.size ≤ j := fun j hj => by
    rcases hj with e | ⟨f, hf, e⟩
    · exact h4 j (.inl e)
    · rcases List.mem_append.1 hf with hf | hf
      · rcases List.mem_append.1 hf with hf | hf
        · exact h4 j (.inr ⟨f, List.mem_append_left _ hf, e⟩)
        · obtain rfl : f = ⟨M[k].h, .slice A M[k].es.length c, M[k].es⟩ := by simpa using hf
          exact Nat.le_trans h5.size (hE.lt e).1
      · obtain ⟨_, rfl⟩ := List.mem_replicate.1 hf
        cases e
  refine ⟨W2, r1, _, ?_, by rw [List.length_append, h2]; rfl, r2, hof, (h5.trans (hB.mono h5.size)).trans (r3.below fun j hj => ⟨?_, ?_⟩)⟩
  · rw [List.map_append, h1, List.take_succ_eq_append_getElem hk]
    rfl
  · have := h5.size; have := hB.size; omega
  · have := h4 g (.inl rfl); omega
section
variable {w w' : World} {n : Nat} {M : List Net.Ml} {S : Nat → Prop}
theorem IsNet.small {H : Value → Obj} (h : IsNet H w n M S) {k : Nat} (hk : k < M.length) : M[k].es.length ≤ 100000 := by
  obtain ⟨v, ms, h⟩ := h
  have hk' : k < ms.length := by rw [h.len]; exact hk
  have hm : M[k] = ms[k].ml := by simp only [← h.ml, List.getElem_map]
  rw [hm]
  exact h.mails.few _ (List.getElem_mem hk')
set_option maxRecDepth 100000 in
set_option maxHeartbeats 1000000 in
theorem all_any (h : IsNet HN w n M S) : Calls Try.prog 17 #[.pointer (some ⟨n, 0, none⟩)] w (AllPost M w) := by
  obtain ⟨i0, hi, hz0, hz1, hz2⟩ := info_parts Try.info_mail
  have hfew := h.few
  obtain ⟨W0, hmk, hown, hgr⟩ := run_make_full (P := Try.prog) w w.heap.size 27 36 i0 _ 18 Try.underlying27 hi hz0 hz1 .i64 .i64 M.length (by rw [hz2]; omega) (by unfold maxLen; omega) (Nat.le_refl _)
  rw [made_mails] at hown
  have hb0 : Below w.heap.size w W0 := (Below.refl _ _).grown hgr (Nat.le_refl _) (fun k hk => by cases hk)
  have hrep : ∀ m ∈ List.replicate M.length mm0, m = mm0 := fun m hm => (List.mem_replicate.1 hm).2
  have H0 : Hid (AllAt M w w.heap.size 0 W0) := by
    refine ⟨[], rfl, rfl, ?_, ?_, hb0⟩ <;> rw [List.nil_append, Nat.sub_zero]
    · refine ⟨by rw [List.length_replicate]; exact own_base hown (fun k _ => Nat.zero_le k), fun m hm => ?_, fun m hm => ?_, ?_, fun m hm k e => ?_⟩
      · rw [hrep m hm]; exact EOwn.nil _ _
      · rw [hrep m hm]; exact Nat.zero_le _
      · refine List.pairwise_iff_getElem.2 fun a b ha hb hab k e => ?_
        rw [hrep _ (List.getElem_mem ha)] at e; cases e
      · rw [hrep m hm] at e; cases e
    · intro j hj
      rcases hj with e | ⟨m, hm, e⟩
      · have h1 : w.heap.size = j := Option.some.inj e
        omega
      · rw [hrep m hm] at e; cases e
  have HLN := Lib.hid (len_any h)
  have HST := Lib.hid (fun (k : Nat) (hk : k < M.length) wx A c (hA : Hid (AllAt M w w.heap.size k wx)) W1 h1 h2 => AllAt.next (A := A) (c := c) (W1 := W1) hA.out hk (h.small hk) h1 h2)
  have HTL := Lib.hid (fun (k : Nat) (hk : k < M.length) wx (hA : Hid (AllAt M w w.heap.size k wx)) => tell_new hk (h.below (hA.out.choose_spec.2.2.2.2)))
  have HMK := Lib.hid hmk
  clear h hmk hown hgr hrep hb0 hi hz0 hz1 hz2
  go_enter Try.func17, Try.ntmps17
  go_wp2_with fail
  refine HLN.out.mono ?_
  rintro e w' ⟨rfl, rfl⟩
  have hmk := HMK.out
  go_wp2_with fail
  clear hmk
  go_loopg [10] M.length (fun kx s10 wr => ∃ k : Nat, k ≤ M.length ∧ s10 = .int .i64 (k : Int) ∧ M.length - k ≤ kx ∧ Hid (AllAt M w w.heap.size k wr))
  case atStart => exact ⟨0, Nat.zero_le _, rfl, by omega, H0⟩
  case round =>
    obtain ⟨k, hk, rfl, hkx, HA⟩ := hrel
    by_cases hlt : k < M.length
    · have HT := Lib.hid (HTL.out k hlt _ HA)
      have HS := Lib.hid (HST.out k hlt)
      have hlk : (k : Int) < (M.length : Int) := by omega
      generalize hm : M[k] = m at *
      clear hm
      go_wp2_with fail
      refine HT.out.mono ?_
      rintro e W1 ⟨A, c, rfl, h1, h2⟩
      obtain ⟨W2, hst, h3⟩ := HS.out _ A c HA W1 h1.out h2.out
      have HST2 := Lib.hid hst
      have HA2 := Lib.hid h3
      clear hst h3
      go_wp2_with (refine wpList_store_run rfl 36 _ _ rfl ⟨w.heap.size, k * 18, none⟩ _ rfl rfl HST2.out ?_)
      go_roundg (M.length - (k + 1))
      case measure => omega
      case rel => exact ⟨k + 1, by omega, by go_num, by omega, HA2⟩
    · obtain rfl : k = M.length := by omega
      have hlk : ¬ ((M.length : Int) < (M.length : Int)) := by omega
      go_wp2
      go_ret
      obtain ⟨ts, a1, a2, a3, a4, a5⟩ := HA.out
      rw [Nat.sub_self, List.replicate_zero, List.append_nil] at a3 a4
      rw [List.take_length] at a1
      exact ⟨_, _, ts, rfl, a3, a1, a4, a5⟩
end
end Go.Proofs.Ytlejlmlgcehjiaa
