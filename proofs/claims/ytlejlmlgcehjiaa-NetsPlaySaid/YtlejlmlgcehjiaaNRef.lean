/-
  The document's net: Look, Take, Copy, Drop.
-/
import Derived.Test.YtlejlmlgcehjiaaNRSend
import Derived.Test.YtlejlmlgcehjiaaNNone
namespace Go.Proofs.Ytlejlmlgcehjiaa
open Go.RowKit
/-- What a call of the document's tells, and leaves. -/
def RDid (w : World) (r : Nat) (T : Nat → Prop) (R : List Net.Ml × Net.Ml × Bool) (e : Ending) (w' : World) : Prop :=
  ∃ A c T', e = .returned (.tuple #[.agg (mcells R.2.1.h (.slice A R.2.1.es.length c)).toArray, .bool R.2.2]) ∧ Hid (IsNet HR w' r R.1 T') ∧ Hid (Foot T w w') ∧ Hid (∀ k, T' k → T k ∨ w.heap.size ≤ k) ∧ Hid (Ents w' (.slice A R.2.1.es.length c) R.2.1.es) ∧
    Hid (∀ k, 0 < R.2.1.es.length → (Value.slice A R.2.1.es.length c).ownBlock = some k → T' k)
section
variable {w w' : World} {r : Nat} {M : List Net.Ml} {T : Nat → Prop}
theorem mm_slice {w : World} {base : Nat} {m : MM} (h : EOwn w base m.v m.es) : ∃ A c, m.v = .slice A m.es.length c := by
  obtain ⟨A, c, e, _⟩ := own_is_slice h
  exact ⟨A, c, e⟩
/-- What Look answers: all that was there is as it was. -/
def RTell (w : World) (r : Nat) (T : Nat → Prop) (m : Net.Ml) (ok : Bool) (e : Ending) (w' : World) : Prop :=
  ∃ A c, e = .returned (.tuple #[.agg (mcells m.h (.slice A m.es.length c)).toArray, .bool ok]) ∧ Hid (Below w.heap.size w w') ∧ Hid (Ents w' (.slice A m.es.length c) m.es) ∧ Hid (∀ k, 0 < m.es.length → (Value.slice A m.es.length c).ownBlock = some k → T k ∧ k ≠ r)
/-- A message laid into a box of one's own. -/
theorem box_to {W1 : World} {b : Nat} {cs : Array Value} {t : TypeId} (hd : Net.Hd) (A : Option Addr) (n c : Nat) (hb : W1.heap[b]? = some (.cells cs t (0, 0))) (hs : cs.size = 18) (hB : Below w.heap.size w W1) (hbl : w.heap.size ≤ b) :
    ∃ W2, (storeVar 36 ⟨b, 0, none⟩ (.agg (mcells hd (.slice A n c)).toArray)).run Try.prog W1 = .ok () W2 ∧ W2.heap[b]? = some (.cells (mcells hd (.slice A n c)).toArray t (0, 0)) ∧ Below w.heap.size w W2 ∧ Foot (fun k => k = b) W1 W2 := by
  have h2 := run_storeVar_row (P := Try.prog) W1 b t 36 cs (mcells hd (.slice A n c)).toArray hb (by kernel_rfl) hs (by simp [mcells, Value.oneCell'])
  have hf := Foot.row (fun k => k = b) W1 b (mcells hd (.slice A n c)).toArray rfl
  exact ⟨_, h2, setRow_heap _ _ _ _ _ _ hb, hB.trans (hf.below fun k hk => ⟨Nat.lt_of_lt_of_le hk hB.size, by omega⟩), hf⟩
set_option maxRecDepth 100000 in
set_option maxHeartbeats 1000000 in
theorem rlook_tell (i : Int) (h : IsNet HR w r M T) : Calls Try.prog 25 #[.pointer (some ⟨r, 0, none⟩), .int .i64 i] w (RTell w r T (Net.look M i).2.1 (Net.look M i).2.2) := by
  have hb0 := below_alloc1 w (.cells #[.int .i64 0, .int .i64 0, .int .i64 0, .int .i64 0, .int .i64 0, .int .i64 0, .int .i64 0, .int .i64 0, .int .i64 0, .slice none 0 0, .int .i64 0, .int .i64 0, .int .i64 0, .int .i64 0, .int .i64 0, .int .i64 0, .int .i64 0, .int .i64 0] 36)
  have n0 := heap_alloc_new w (.cells #[.int .i64 0, .int .i64 0, .int .i64 0, .int .i64 0, .int .i64 0, .int .i64 0, .int .i64 0, .int .i64 0, .int .i64 0, .slice none 0 0, .int .i64 0, .int .i64 0, .int .i64 0, .int .i64 0, .int .i64 0, .int .i64 0, .int .i64 0, .int .i64 0] 36)
  generalize hW : w.alloc (.cells #[.int .i64 0, .int .i64 0, .int .i64 0, .int .i64 0, .int .i64 0, .int .i64 0, .int .i64 0, .int .i64 0, .int .i64 0, .slice none 0 0, .int .i64 0, .int .i64 0, .int .i64 0, .int .i64 0, .int .i64 0, .int .i64 0, .int .i64 0, .int .i64 0] 36) = W at *
  have HW := Lib.hid hW
  obtain ⟨v, ms, hA⟩ := id h
  have h0 := hA.below hb0
  obtain ⟨A, c, rfl, h1, h2, h3⟩ := h0.mails.len
  obtain ⟨k1, kz⟩ := hr_cells h0.head
  have hlen := hA.len
  by_cases hi : Net.In M i
  · obtain ⟨hi0, hi1⟩ := hi
    obtain ⟨k, rfl⟩ : ∃ k : Nat, i = (k : Int) := ⟨i.toNat, by omega⟩
    have hk : k < M.length := by omega
    have hk' : k < ms.length := by omega
    have hR : Net.look M (k : Int) = (M, ms[k].ml, true) := by
      unfold Net.look
      rw [if_pos ⟨by omega, by omega⟩, Int.toNat_natCast, getD_at hk]
      congr 2
      simp only [← hA.ml, List.getElem_map]
    rw [hR]
    obtain ⟨g, c', hv, q1, q2, q3, q4, q5⟩ := h0.mails.at_ hk'
    injection hv with e1 _ e3
    subst e1 e3
    obtain ⟨Am, cm, hm⟩ := mm_slice (h0.mails.own _ (List.getElem_mem hk'))
    have hld := run_load_mail (W := W) (g := g) (o := k * 18) (h := ms[k].h) (v := ms[k].v) q4
    have hE := (h0.mails.own _ (List.getElem_mem hk')).ents
    have hT : ∀ j, (ms[k].v).ownBlock = some j → T j ∧ j ≠ r := fun j hj => ⟨hA.inS j (.inr ⟨_, List.getElem_mem hk', hj⟩), hA.offn j (.inr ⟨_, List.getElem_mem hk', hj⟩)⟩
    rw [hm] at hld hE hT
    obtain ⟨W2, st, k2, b2, f2⟩ := box_to (w := w) ms[k].h Am ms[k].es.length cm n0 rfl hb0 (Nat.le_refl _)
    have hlt : ∀ j, T j → j < w.heap.size := fun j hj => hA.lt j hj
    have HE : Hid (Ents W2 (.slice Am ms[k].es.length cm) ms[k].es) := hE.foot f2 fun j _ hj e => by have := hlt j (hT j hj).1; omega
    have HT := Lib.hid (fun (j : Nat) (_ : 0 < ms[k].es.length) hj => hT j hj)
    have HL := Lib.hid hld
    have HS := Lib.hid st
    have HB := Lib.hid b2
    have hii : (k : Int) < (ms.length : Int) := by omega
    unfold RTell
    dsimp only [MM.ml]
    generalize ms[k].h = hd at *
    generalize ms[k].es = es at *
    clear h hA h0 hW hb0 n0 hR q4 q5 hld hE hT st b2 f2 hlt hm hi0 hi1 hk
    go_enter Try.func25, Try.ntmps25
    go_wp2_with (first | rw [HW.out] | (refine wpList_load_run rfl 36 _ rfl ⟨g, k * 18, none⟩ rfl HL.out ?_) | (refine wpList_store_run rfl 36 _ _ rfl ⟨w.heap.size, 0, none⟩ _ rfl rfl HS.out ?_))
    refine bodyPost_ret (results_row_tmp rfl _ _ _ _ _ _ _ rfl k2 Try.underlying36 rfl (by kernel_rfl)) rfl ?_
    exact ⟨Am, cm, rfl, HB, HE, HT⟩
  · have hR : Net.look M i = (M, Net.ml0, false) := if_neg hi
    rw [hR]
    obtain ⟨W2, st, k2, b2, f2⟩ := box_to (w := w) Net.hd0 none 0 0 n0 rfl hb0 (Nat.le_refl _)
    have HS := Lib.hid st
    have HB := Lib.hid b2
    have hI : i < 0 ∨ ¬ i < 0 ∧ (ms.length : Int) ≤ i := by unfold Net.In at hi; omega
    clear h hA h0 hW hb0 n0 hR st b2 f2 hi h3
    rcases hI with h0 | ⟨h0, h1⟩
    all_goals
      go_enter Try.func25, Try.ntmps25
      go_wp2_with (first | rw [HW.out] | (refine wpList_store_run rfl 36 _ _ rfl ⟨w.heap.size, 0, none⟩ (.agg (mcells Net.hd0 (.slice none 0 0)).toArray) rfl rfl HS.out ?_))
      refine bodyPost_ret (results_row_tmp rfl _ _ _ _ _ _ _ rfl k2 Try.underlying36 rfl (by kernel_rfl)) rfl ?_
      exact ⟨none, 0, rfl, HB, (EOwn.nil W2 0).ents, fun k h0 => by cases h0⟩
theorem rlook_any (i : Int) (h : IsNet HR w r M T) : Calls Try.prog 25 #[.pointer (some ⟨r, 0, none⟩), .int .i64 i] w (RDid w r T (Net.look M i)) := by
  refine (rlook_tell i h).mono ?_
  rintro e w' ⟨A, c, rfl, hb, hE, hT⟩
  have h1 : (Net.look M i).1 = M := by unfold Net.look; split <;> rfl
  exact ⟨A, c, T, rfl, by rw [h1]; exact h.below hb.out, below_foot hb.out, fun _ e => .inl e, hE, Lib.hid fun k h0 hk => (hT.out k h0 hk).1⟩
theorem slice_mail (X : World) (h : Net.Hd) (v : Value) : (Instr.buildSlice 27 1 #[(0, .agg (mcells h v).toArray)]).run Try.prog X = .ok (.slice (some ⟨X.heap.size, 0, none⟩) 1 1) (X.alloc (.cells (mcells h v).toArray 36)) := by kernel_rfl
theorem cut_next (ms : List MM) {k i : Nat} (hk : k < ms.length) : (ms.take (k + 1)).eraseIdx i = (ms.take k).eraseIdx i ++ (if k = i then [] else [ms[k]]) := by
  rw [List.take_succ_eq_append_getElem hk]
  have hl : (ms.take k).length = k := by rw [List.length_take]; omega
  by_cases h : k = i
  · subst h
    have h1 : (ms.take k).eraseIdx k = ms.take k := List.eraseIdx_of_length_le (by omega)
    rw [if_pos rfl, List.eraseIdx_append_of_length_le (by omega), hl, Nat.sub_self, h1]
    simp
  · rw [if_neg h]
    by_cases h2 : i < k
    · rw [List.eraseIdx_append_of_lt_length (by omega)]
    · rw [List.eraseIdx_append_of_length_le (by omega), hl, List.eraseIdx_of_length_le (l := ms.take k) (by omega), List.eraseIdx_of_length_le (by simp; omega)]
/-- The net with a row of its own that is new. -/
theorem NetAt.anew {w wr W : World} {v v' : Value} {ms ms' : List MM} {M' : List Net.Ml} (h : NetAt HR w r M T v ms) (hb : Below w.heap.size w wr) (hs : ms'.Sublist ms) (hr : wr.ownsRow w.heap.size 36 18 v' ms'.length (mcs ms')) (hM : ms'.map MM.ml = M')
    (hf : Foot (fun k => k = r) wr W) (hh : W.heap[r]? = some (HR v')) : IsNet HR W r M' (fun k => T k ∨ v'.ownBlock = some k) ∧ Foot T w W := by
  have hnew : ∀ k, v'.ownBlock = some k → w.heap.size ≤ k := fun k hk => (World.ownsRow.lt hr k hk).1
  have hMa := h.mails.some_ hs (below_foot hb : Foot (fun k => v.ownBlock = some k) w wr) (own_base hr fun k _ => Nat.zero_le k) fun k hk => .inr (hnew k hk)
  have hrl := h.lt r h.inn
  have hof : ∀ k, OfMails v' ms' k → k ≠ r ∧ (T k ∨ v'.ownBlock = some k) := fun k hk => by
    rcases hk with e | ⟨m, hm, e⟩
    · exact ⟨by have := hnew k e; omega, .inr e⟩
    · exact ⟨h.offn k (.inr ⟨m, hs.subset hm, e⟩), .inl (h.inS k (.inr ⟨m, hs.subset hm, e⟩))⟩
  have hMW := hMa.foot hf fun k hk => (hof k hk).1
  refine ⟨⟨v', ms', hh, hMW, fun k hk => (hof k hk).1, hM, ?_, .inl h.inn, fun k hk => (hof k hk).2, fun k hk => ?_⟩, (below_foot hb : Foot T w wr).trans hf fun k _ e => by rw [e]; exact h.inn⟩
  · rw [← hM, List.length_map]
    have := hs.length_le
    have := h.few
    have := h.len
    omega
  · rcases hk with e | e
    · exact Nat.lt_of_lt_of_le (h.lt k e) (Nat.le_trans hb.size hf.size)
    · exact Nat.lt_of_lt_of_le (World.ownsRow.lt hr k e).2 hf.size
end
end Go.Proofs.Ytlejlmlgcehjiaa
