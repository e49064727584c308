/-
  The contracts of Remove, Truncate, Start, New, Names and Unsynced of the document's disk.
-/
import Derived.Test.YtceldekbkffhpaaQOps
import Derived.Test.YtceldekbkffhpaaDSep
namespace Go.Proofs.Ytceldekbkffhpaa
open Go.RowKit
section
variable {w w' : World} {d : Nat} {D : Dsk.Dk} {S : Nat → Prop} {v kv : Value} {set : Bool} {left : Nat} {K : List Int}
set_option maxRecDepth 100000 in
set_option maxHeartbeats 1000000 in
theorem qremove_any (nm : ByteArray) (h : IsQ w d D S) : Calls Try.prog 33 #[.pointer (some ⟨d, 0, none⟩), .string nm] w (AnyRet (DidQ w d S (Dsk.remove D nm))) := by
  obtain ⟨v, set, left, kv, K, h⟩ := h
  have HQ := Lib.hid h
  have HF := Lib.hid (qthere_at nm h)
  cases hd : D.down
  · by_cases hm : nm ∈ Dsk.names D.fs
    · rw [there_yes hd hm] at HF
      obtain ⟨hi, _⟩ := Dsk.place_mem' h.good.rise hm
      have HR := Lib.hid (show Dsk.remove D nm = Dsk.change D fun fs => Dsk.del fs nm from qask_is hd hm _)
      have HD := Lib.hid (show Dsk.del D.fs nm = D.fs.eraseIdx (Dsk.place (Dsk.names D.fs) nm) from if_pos hm)
      generalize Dsk.place (Dsk.names D.fs) nm = p at *
      clear h hm
      go_enter Try.func33, Try.ntmps33
      go_wp2_with fail
      refine HF.out.mono ?_
      rintro e w1 ⟨rfl, hb⟩
      have h1 := HQ.out.below hb
      have HC := Lib.hid (qchange_at h1 hd)
      have HB := Lib.hid hb
      go_wp2_with fail
      refine HC.out.mono ?_
      rintro e w2 (⟨hp, rfl, left', h2, hf2⟩ | ⟨hp, rfl, h2, hf2⟩)
      · obtain ⟨hfs1, _, _⟩ := (pass_has D).2 hp
        have HW := Lib.hid (qwithout_at p h2)
        have HQ2 := Lib.hid h2
        have hdin : S d := h2.din
        have HF2 := Lib.hid hf2
        have HP := Lib.hid hp
        have HFS := Lib.hid hfs1
        have hg : Dsk.Good { (Dsk.pass D).1 with fs := (Dsk.pass D).1.fs.eraseIdx p } := h2.good.sub (List.eraseIdx_sublist _ _) _ _ _
        have HG := Lib.hid hg
        clear h2 hf2 hp hfs1 hg
        go_wp2_with fail
        refine HW.out.mono ?_
        rintro e w3 ⟨A, c, rfl, ho, hb3⟩
        obtain ⟨q1, q2⟩ := HQ2.out.rows hb3 ho HG.out
        have k3 := (HQ2.out.below hb3).head.cells.2.2.2.1
        have z3 := (HQ2.out.below hb3).head.cells.2.2.2.2.2.2.2 3
        have hnew : ∀ k, (Value.slice A ((Dsk.pass D).1.fs.eraseIdx p).length c).ownBlock = some k → w2.heap.size ≤ k := fun k hk => (World.ownsRow.lt ho k hk).1
        have Q1 := Lib.hid q1
        have Q2 := Lib.hid q2
        have HN := Lib.hid hnew
        clear q1 q2 hnew ho hb3
        generalize ((Dsk.pass D).1.fs.eraseIdx p).length = n at *
        go_wp2_with fail
        go_ret
        refine ⟨0, rfl, ?_⟩
        rw [HR.out, change_ok HP.out, HD.out, ← HFS.out]
        exact DidQ.from_ HB.out (DidQ.end_ ⟨_, _, _, _, _, Q1.out⟩ ((HF2.out.mono fun k _ e => by rw [e]; exact hdin).trans (Q2.out.mono fun k _ e => by rw [e]; exact hdin) fun _ _ h => h) (fun k hk => by
          rcases hk with e | e
          · exact .inl e
          · exact .inr (Nat.le_trans HF2.out.size (HN.out k e))) 0)
      · go_wp2_with fail
        go_ret
        refine ⟨41, rfl, ?_⟩
        rw [HR.out, change_no hp]
        have h1 := HQ.out.below HB.out
        refine DidQ.from_ HB.out ⟨hp.symm, S, h2, hf2.mono fun k _ e => ?_, fun k hk => .inl hk⟩
        rcases e with e | e
        · rw [e]; exact h1.din
        · exact h1.vin k e
    · rw [there_no hd hm] at HF
      have HR := Lib.hid (show Dsk.remove D nm = (D, 4) from qask_no hd hm _)
      clear h hm
      go_enter Try.func33, Try.ntmps33
      go_wp2_with fail
      refine HF.out.mono ?_
      rintro e w1 ⟨rfl, hb⟩
      go_wp2_with fail
      go_ret
      exact ⟨4, rfl, by rw [HR.out]; exact DidQ.same ⟨v, set, left, kv, K, HQ.out⟩ 4 hb⟩
  · rw [there_down hd] at HF
    have HR := Lib.hid (show Dsk.remove D nm = (D, 41) from qask_dn hd _)
    clear h
    go_enter Try.func33, Try.ntmps33
    go_wp2_with fail
    refine HF.out.mono ?_
    rintro e w1 ⟨rfl, hb⟩
    go_wp2_with fail
    go_ret
    exact ⟨41, rfl, by rw [HR.out]; exact DidQ.same ⟨v, set, left, kv, K, HQ.out⟩ 41 hb⟩
set_option maxRecDepth 100000 in
theorem qstart_any (h : IsQ w d D S) (hs : D.starts ≤ 1000000) : Calls Try.prog 35 #[.pointer (some ⟨d, 0, none⟩)] w (AnyRet (DidQ w d S (Dsk.start D))) := by
  obtain ⟨v, set, left, kv, K, h⟩ := h
  have HQ := Lib.hid h
  have hh := h.head
  cases hd : D.down
  · rw [hd] at hh
    have k2 := hh.cells.2.2.1
    have HR := Lib.hid (show Dsk.start D = (D, 2) by unfold Dsk.start; rw [hd]; rfl)
    clear h hh
    go_enter Try.func35, Try.ntmps35
    go_wp2_with fail
    go_ret
    exact ⟨2, rfl, by rw [HR.out]; exact DidQ.same ⟨v, set, left, kv, K, HQ.out⟩ 2 (Below.refl _ _)⟩
  · rw [hd] at hh
    obtain ⟨k0, k1, k2, k3, k4, k5, k6, kz⟩ := hh.cells
    have z2 := kz 2
    have hh1 : QHead (w.setCell ⟨d, 2, none⟩ (.bool false)) d D.cap D.starts false v set left kv := hh.write 2 (.bool false)
    have y1 := hh1.cells.2.1
    have yz := hh1.cells.2.2.2.2.2.2.2 1
    have HR := Lib.hid (show Dsk.start D = ({ D with down := false, starts := D.starts + 1 }, 0) by unfold Dsk.start; rw [hd]; rfl)
    have hh2 : QHead ((w.setCell ⟨d, 2, none⟩ (.bool false)).setCell ⟨d, 1, none⟩ (.int .i64 ((D.starts + 1 : Nat) : Int))) d D.cap (D.starts + 1) false v set left kv := hh1.write 1 (.int .i64 ((D.starts + 1 : Nat) : Int))
    have hf : Foot (fun k => k = d) w ((w.setCell ⟨d, 2, none⟩ (.bool false)).setCell ⟨d, 1, none⟩ (.int .i64 ((D.starts + 1 : Nat) : Int))) := (Foot.set (fun k => k = d) w _ _ rfl).trans (Foot.set (fun k => k = d) _ _ _ rfl) fun _ _ h => h
    have hq : QAt ((w.setCell ⟨d, 2, none⟩ (.bool false)).setCell ⟨d, 1, none⟩ (.int .i64 ((D.starts + 1 : Nat) : Int))) d { D with down := false, starts := D.starts + 1 } S v set left kv K :=
      ⟨hh2, owns_foot h.row hf fun k hk e => h.offd (by rw [hk, e]), h.keep.foot hf fun k hk e => (h.koff k hk).1 e, h.klen, h.lmax, h.fail, h.offd, h.koff, fun k hk => ⟨Nat.lt_of_lt_of_le (h.kin k hk).1 hf.size, (h.kin k hk).2⟩, h.vin, h.din, fun k hk => Nat.lt_of_lt_of_le (h.lt k hk) hf.size, h.good.same _ _ _⟩
    have Q := Lib.hid hq
    have HFF := Lib.hid hf
    have e1 : (((D.starts + 1 : Nat)) : Int) = (D.starts : Int) + 1 := by omega
    rw [e1] at Q HFF
    have hdin := h.din
    clear h hh hh1 hh2 hf hq k0 k1 k3 k4 k5 k6 kz e1
    go_enter Try.func35, Try.ntmps35
    go_wp2_with fail
    go_ret
    exact ⟨0, rfl, by rw [HR.out]; exact DidQ.end_ ⟨_, _, _, _, _, Q.out⟩ (HFF.out.mono fun k _ e => by rw [e]; exact hdin) (fun k hk => .inl hk) 0⟩
def NewQ (w : World) (c : Int) (e : Ending) (w' : World) : Prop :=
  (¬ (1 ≤ c ∧ c ≤ 1048576) ∧ e = .returned (.tuple #[.pointer none, .int .i64 2]) ∧ w = w') ∨
  ((1 ≤ c ∧ c ≤ 1048576) ∧ e = .returned (.tuple #[.pointer (some ⟨w.heap.size, 0, none⟩), .int .i64 0]) ∧ IsQ w' w.heap.size (Dsk.new c.toNat) (fun k => k = w.heap.size) ∧ Below w.heap.size w w')
theorem qnew_disk {c : Nat} (h1 : 1 ≤ c) (h2 : c ≤ 1048576) : IsQ (w.alloc (.cells #[.int .i64 (c : Int), .int .i64 0, .bool false, .slice none 0 0, .bool false, .int .i64 0, .slice none 0 0] 47)) w.heap.size (Dsk.new c) (fun k => k = w.heap.size) := by
  refine ⟨.slice none 0 0, false, 0, .slice none 0 0, [], heap_alloc_new w _, World.ownsRow_nil _ _ _ _, ⟨none, 0, rfl, Nat.le_refl _, Nat.zero_le _, fun _ => ⟨rfl, rfl⟩, fun h => by simp at h⟩, Nat.zero_le _, Nat.zero_le _, rfl, (fun h => by cases h), (fun k h => by cases h), (fun k h => by cases h), (fun k h => by cases h), rfl, fun k hk => by rw [hk]; simp, ⟨List.Pairwise.nil, Nat.zero_le _, Nat.zero_le _, h1, h2, fun _ h => (List.not_mem_nil h).elim, fun _ h => (List.not_mem_nil h).elim⟩⟩
set_option maxRecDepth 100000 in
theorem qnew_any (c : Int) (w : World) : Calls Try.prog 6 #[.int .i64 c] w (NewQ w c) := by
  by_cases h1 : 1 ≤ c
  · by_cases h2 : c ≤ 1048576
    · obtain ⟨n, rfl⟩ : ∃ n : Nat, c = (n : Int) := ⟨c.toNat, by omega⟩
      have HN := Lib.hid (qnew_disk (w := w) (c := n) (by omega) (by omega))
      go_enter Try.func6, Try.ntmps6
      go_wp2_with fail
      go_ret2
      exact .inr ⟨⟨h1, h2⟩, rfl, HN.out, (Below.refl _ _).alloc (Nat.le_refl _) _⟩
    · go_enter Try.func6, Try.ntmps6
      go_wp2_with fail
      go_ret2
      exact .inl ⟨fun h => by omega, rfl, rfl⟩
  · go_enter Try.func6, Try.ntmps6
    go_wp2_with fail
    go_ret2
    exact .inl ⟨fun h => by omega, rfl, rfl⟩
end
end Go.Proofs.Ytceldekbkffhpaa
