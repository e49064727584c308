/-
  The contracts of Fail and Crash of the document's disk.
-/
import Derived.Test.YtceldekbkffhpaaQInts
namespace Go.Proofs.Ytceldekbkffhpaa
open Go.RowKit
theorem Ints.foot2 {S : Nat → Prop} {w w' : World} {v : Value} {l : List Int} (h : Ints w v l) (hf : Foot S w w') (hn : ∀ k, 0 < l.length → v.ownBlock = some k → ¬ S k) : Ints w' v l := by
  obtain ⟨A, c, rfl, h1, h2, h3, h4⟩ := h
  refine ⟨A, c, rfl, h1, h2, h3, fun h0 => ?_⟩
  obtain ⟨b, off, rfl, hb, hc⟩ := h4 h0
  exact ⟨b, off, rfl, Nat.lt_of_lt_of_le hb hf.size, fun j hj => (hf.cell (p := ⟨b, off + j, none⟩) hb (hn b h0 rfl)).trans (hc j hj)⟩
section
variable {w w' : World} {d : Nat} {D : Dsk.Dk} {S : Nat → Prop} {v kv : Value} {set : Bool} {left : Nat} {K : List Int}
set_option maxRecDepth 100000 in
set_option maxHeartbeats 1000000 in
theorem qfail_any (ka : Value) (keep : List Int) (n : Int) (hn : n ≤ 9223372036854775807) (h : IsQ w d D S) (hk : Ints w ka keep) (hoff : ∀ k, 0 < keep.length → ka.ownBlock = some k → ¬ S k) (hkl : keep.length ≤ 1000000) : Calls Try.prog 36 #[.pointer (some ⟨d, 0, none⟩), .int .i64 n, ka] w (AnyRet (DidQ w d S (Dsk.failSet D n keep))) := by
  obtain ⟨v, set, left, kv, K, h⟩ := h
  have HQ := Lib.hid h
  have hh := h.head
  cases hd : D.down
  · rw [hd] at hh
    have k2 := hh.cells.2.2.1
    by_cases hneg : n < 0
    · have HS : Hid (Dsk.failSet D n keep = (D, 2)) := by unfold Hid Dsk.failSet; rw [hd, if_neg (by simp), if_pos hneg]
      have t1 : decide (n < 0) = true := decide_eq_true hneg
      clear h hh
      go_enter Try.func36, Try.ntmps36
      go_wp2_with fail
      go_ret
      exact ⟨2, rfl, by rw [HS.out]; exact DidQ.same ⟨_, _, _, _, _, HQ.out⟩ 2 (Below.refl _ _)⟩
    · obtain ⟨m, rfl⟩ := Int.eq_ofNat_of_zero_le (show 0 ≤ n by omega)
      have HS : Hid (Dsk.failSet D (m : Int) keep = ({ D with fail := some (m, keep.take 16) }, 0)) := by unfold Hid Dsk.failSet; rw [hd, if_neg (by simp), if_neg hneg]; rfl
      have t1 : decide ((m : Int) < 0) = false := decide_eq_false hneg
      obtain ⟨KA, kc, rfl, k1, _⟩ := hk
      have hk' : Ints w (.slice KA keep.length kc) keep := ⟨KA, kc, rfl, k1, by assumption⟩
      have hh1 : QHead (w.setCell ⟨d, 4, none⟩ (.bool true)) d D.cap D.starts false v true left kv := hh.write 4 (.bool true)
      have hh2 : QHead ((w.setCell ⟨d, 4, none⟩ (.bool true)).setCell ⟨d, 5, none⟩ (.int .i64 (m : Int))) d D.cap D.starts false v true m kv := hh1.write 5 (.int .i64 (m : Int))
      have hf2 : Foot (fun k => k = d) w ((w.setCell ⟨d, 4, none⟩ (.bool true)).setCell ⟨d, 5, none⟩ (.int .i64 (m : Int))) := (Foot.set (fun k => k = d) w _ _ rfl).trans (Foot.set (fun k => k = d) _ _ _ rfl) fun _ _ h => h
      have z4 := hh.cells.2.2.2.2.2.2.2 4
      have z5 := hh1.cells.2.2.2.2.2.2.2 5
      have k4 := hh.cells.2.2.2.2.1
      have k5 := hh1.cells.2.2.2.2.2.1
      obtain ⟨w2, hw2⟩ : ∃ w2, (w.setCell ⟨d, 4, none⟩ (.bool true)).setCell ⟨d, 5, none⟩ (.int .i64 (m : Int)) = w2 := ⟨_, rfl⟩
      rw [hw2] at hh2 hf2
      have hba : Below w2.heap.size w2 (w2.alloc (.cells #[] 3)) := (Below.refl _ _).alloc (Nat.le_refl _) _
      have hdl := lt_of_block hh2
      have hk2 : Ints (w2.alloc (.cells #[] 3)) (.slice KA keep.length kc) keep := by
        exact Ints.foot2 (Ints.foot2 hk' hf2 fun k h0 e e' => hoff k h0 e (by rw [e']; exact h.din)) (below_foot hba : Foot (fun _ => False) w2 _) fun _ _ _ e => e
      obtain ⟨A, c, w3, hr, ho, hg⟩ := run_append_ints (n := 0) (xs := []) (empty_own w2 w.heap.size 3 hf2.size) hk2 (Nat.le_trans hf2.size hba.size) (by omega)
      rw [Nat.zero_add, List.nil_append] at ho
      rw [Nat.zero_add] at hr
      have hb3 : Below w2.heap.size w2 w3 := hba.grown hg hba.size (fun j e => by cases e; exact Nat.le_refl _)
      have hh3 := hh2.foot (below_foot (S := fun _ => False) hb3) fun e => e
      have y6 := hh3.cells.2.2.2.2.2.2.1
      have z6 := hh3.cells.2.2.2.2.2.2.2 6
      have hh4 : QHead (w3.setCell ⟨d, 6, none⟩ (.slice A keep.length c)) d D.cap D.starts false v true m (.slice A keep.length c) := hh3.write 6 (.slice A keep.length c)
      have hf3 : Foot (fun k => k = d) w3 (w3.setCell ⟨d, 6, none⟩ (.slice A keep.length c)) := Foot.set (fun k => k = d) w3 _ _ rfl
      have hrw : (w3.setCell ⟨d, 6, none⟩ (.slice A keep.length c)).ownsRow w.heap.size 3 1 (.slice A keep.length c) keep.length (keep.map (Value.int .i64)) := owns_foot ho hf3 fun k hk e => by
        have h1 := (World.ownsRow.lt ho k hk).1
        have h2 := lt_of_block h.head
        omega
      obtain ⟨q1, q2⟩ := h.failed (m := m) (by omega) hkl (hf2.trans ((below_foot hb3 : Foot (fun k => k = d) w2 w3).trans hf3 fun _ _ h => h) fun _ _ h => h) hrw (by rw [hd]; exact hh4)
      have HFIN : Hid (DidQ w d S (Dsk.failSet D (m : Int) keep) 0 (w3.setCell ⟨d, 6, none⟩ (.slice A keep.length c))) := by
        unfold Hid
        rw [HS.out]
        refine ⟨rfl, _, ⟨_, _, _, _, _, q1⟩, (hf2.trans ((below_foot hb3 : Foot (fun k => k = d) w2 w3).trans hf3 fun _ _ h => h) fun _ _ h => h).mono fun k _ e => by rw [e]; exact h.din, fun k hk => ?_⟩
        rcases hk with hk | hk
        · exact .inl hk
        · exact .inr (q2 k hk)
      have HR := Lib.hid hr
      clear h hh hh1 hh2 hh3 hh4 hf2 hf3 hrw q1 q2 ho hg hb3 hk2 hk' hba hr HQ HS
      go_enter Try.func36, Try.ntmps36
      go_wp2_with (at_builtin; refine wpList_append_known _ rfl _ _ 32 32 rfl (.slice (some ⟨w2.heap.size, 0, none⟩) 0 0) (.slice KA keep.length kc) (by simp [Act.eval]) (by simp [Act.eval]) HR.out ?_)
      go_ret
      exact ⟨0, rfl, HFIN.out⟩
  · rw [hd] at hh
    have k2 := hh.cells.2.2.1
    have HS : Hid (Dsk.failSet D n keep = (D, 41)) := by unfold Hid Dsk.failSet; rw [hd, if_pos rfl]
    clear h hh
    go_enter Try.func36, Try.ntmps36
    go_wp2_with fail
    go_ret
    exact ⟨41, rfl, by rw [HS.out]; exact DidQ.same ⟨_, _, _, _, _, HQ.out⟩ 41 (Below.refl _ _)⟩
theorem qcrash_any (ka : Value) (keep : List Int) (h : IsQ w d D S) (hk : Ints w ka keep) (hoff : ∀ k, 0 < keep.length → ka.ownBlock = some k → ¬ S k) : Calls Try.prog 34 #[.pointer (some ⟨d, 0, none⟩), ka] w (AnyRet (DidQ w d S (Dsk.crash D keep))) := by
  obtain ⟨v, set, left, kv, K, h⟩ := h
  cases hd : D.down
  · have hc : Dsk.crash D keep = (Dsk.goDown D keep, 0) := by unfold Dsk.crash; rw [hd]; rfl
    refine (qcrash_at h hd hk fun k h0 e => ⟨fun e' => hoff k h0 e (by rw [e']; exact h.din), fun e' => hoff k h0 e (h.vin k e')⟩).mono ?_
    rintro e w' ⟨rfl, q, hf⟩
    rw [hc]
    exact ⟨0, rfl, rfl, S, ⟨_, _, _, _, _, q⟩, hf.mono fun k _ e => by
      rcases e with e | e
      · rw [e]; exact h.din
      · exact h.vin k e, fun k hk => .inl hk⟩
  · have hc : Dsk.crash D keep = (D, 41) := if_pos hd
    refine (qcrash_down h hd).mono ?_
    rintro e w' ⟨rfl, rfl⟩
    rw [hc]
    exact ⟨41, rfl, DidQ.same ⟨_, _, _, _, _, h⟩ 41 (Below.refl _ _)⟩
end
end Go.Proofs.Ytceldekbkffhpaa
