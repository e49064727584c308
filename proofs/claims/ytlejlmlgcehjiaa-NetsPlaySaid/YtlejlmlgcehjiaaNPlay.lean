/-
  How many there are behind an act; what the walks of the laws share.
-/
import Derived.Test.YtlejlmlgcehjiaaNDoes
import Derived.Test.YtlejlmlgcehjiaaNWorks
namespace Go.Proofs.Ytlejlmlgcehjiaa
open Go.RowKit
namespace Net
theorem send_len {M M' : List Ml} {m : Ml} {r : Bool} (h : send M m = (M', r)) : (r = true → M'.length = M.length + 1) ∧ (r = false → M' = M) := by
  unfold send at h
  split at h
  · injection h with h1 h2
    subst h1 h2
    exact ⟨(fun e => by cases e), fun _ => rfl⟩
  · injection h with h1 h2
    subst h1 h2
    exact ⟨fun _ => by simp, fun e => by cases e⟩
theorem take_len {M M' : List Ml} {i : Int} {m : Ml} {r : Bool} (h : take M i = (M', m, r)) : (r = true → M'.length + 1 = M.length) ∧ (r = false → M' = M) := by
  unfold take at h
  split at h
  · rename_i hi
    injection h with h1 h2
    injection h2 with h2 h3
    subst h1 h3
    refine ⟨fun _ => ?_, fun e => by cases e⟩
    have h4 : i.toNat < M.length := by have := hi.1; have := hi.2; omega
    rw [List.length_eraseIdx_of_lt h4]
    omega
  · injection h with h1 h2
    injection h2 with h2 h3
    subst h1 h3
    exact ⟨(fun e => by cases e), fun _ => rfl⟩
theorem look_same {M M' : List Ml} {i : Int} {m : Ml} {r : Bool} (h : look M i = (M', m, r)) : M' = M := by
  unfold look at h
  split at h <;> (injection h with h1 h2; exact h1.symm)
theorem copy_len {M M' : List Ml} {i : Int} {r : Bool} (h : copy M i = (M', r)) : (r = true → M'.length = M.length + 1) ∧ (r = false → M' = M) := by
  unfold copy at h
  split at h
  · exact send_len h
  · injection h with h1 h2
    subst h1 h2
    exact ⟨(fun e => by cases e), fun _ => rfl⟩
theorem act_send {M : List Ml} {k : Int} {m : Ml} {i : Int} (h0 : k % 9 = 0 ∨ k % 9 = 1 ∨ k % 9 = 2 ∨ k % 9 = 3) : act M k m i = ((send M m).1, ml0, (send M m).2) := by
  unfold act
  rw [if_neg (by omega), if_neg (by omega), if_neg (by omega), if_neg (by omega), if_neg (by omega)]
theorem act_look {M : List Ml} {k : Int} {m : Ml} {i : Int} (h0 : k % 9 = 4) : act M k m i = look M i := by
  unfold act
  rw [if_pos h0]
theorem act_take {M : List Ml} {k : Int} {m : Ml} {i : Int} (h0 : k % 9 = 5 ∨ k % 9 = 6) : act M k m i = take M i := by
  unfold act
  rcases h0 with h0 | h0
  · rw [if_neg (by omega), if_pos h0]
  · rw [if_neg (by omega), if_neg (by omega), if_pos h0]
theorem act_copy {M : List Ml} {k : Int} {m : Ml} {i : Int} (h0 : k % 9 = 7) : act M k m i = ((copy M i).1, ml0, (copy M i).2) := by
  unfold act
  rw [if_neg (by omega), if_neg (by omega), if_neg (by omega), if_pos h0]
theorem act_drop {M : List Ml} {k : Int} {m : Ml} {i : Int} (h0 : k % 9 = 8) : act M k m i = ((take M i).1, ml0, (take M i).2.2) := by
  unfold act
  rw [if_neg (by omega), if_neg (by omega), if_neg (by omega), if_neg (by omega), if_pos h0]
theorem act_len {M M' : List Ml} {k : Int} {m m' : Ml} {i : Int} {r : Bool} (h : act M k m i = (M', m', r)) :
    (r = true → k % 9 = 0 ∨ k % 9 = 1 ∨ k % 9 = 2 ∨ k % 9 = 3 ∨ k % 9 = 7 → M'.length = M.length + 1) ∧ (r = true → k % 9 = 5 ∨ k % 9 = 6 ∨ k % 9 = 8 → M'.length + 1 = M.length) ∧ (k % 9 = 4 → M' = M) ∧ (r = false → M' = M) := by
  have hm : (k % 9 = 0 ∨ k % 9 = 1 ∨ k % 9 = 2 ∨ k % 9 = 3) ∨ k % 9 = 4 ∨ (k % 9 = 5 ∨ k % 9 = 6) ∨ k % 9 = 7 ∨ k % 9 = 8 := by omega
  rcases hm with e | e | e | e | e
  · rw [act_send e] at h
    injection h with h1 h2
    injection h2 with h2 h3
    have hs := send_len (M := M) (m := m) (M' := M') (r := r) (by rw [← h1, ← h3])
    exact ⟨fun a _ => hs.1 a, fun _ b => by omega, fun b => by omega, hs.2⟩
  · rw [act_look e] at h
    have hs := look_same h
    exact ⟨fun _ b => by omega, fun _ b => by omega, fun _ => hs, fun _ => hs⟩
  · rw [act_take e] at h
    have hs := take_len h
    exact ⟨fun _ b => by omega, fun a _ => hs.1 a, fun b => by omega, hs.2⟩
  · rw [act_copy e] at h
    injection h with h1 h2
    injection h2 with h2 h3
    have hs := copy_len (M := M) (i := i) (M' := M') (r := r) (by rw [← h1, ← h3])
    exact ⟨fun a _ => hs.1 a, fun _ b => by omega, fun b => by omega, hs.2⟩
  · rw [act_drop e] at h
    injection h with h1 h2
    injection h2 with h2 h3
    have hs := take_len (M := M) (i := i) (M' := M') (m := (take M i).2.1) (r := r) (by rw [← h1, ← h3])
    exact ⟨fun _ b => by omega, fun a _ => hs.1 a, fun b => by omega, hs.2⟩
end Net
theorem run_load_act {W : World} {g o : Nat} {x : AV} (hc : ∀ j, j < 20 → W.cell? ⟨g, o + j, none⟩ = (acells x)[j]?) : (loadVar 38 ⟨g, o, none⟩).run Try.prog W = .ok (.agg (acells x).toArray) W := by
  have hs : (acells x).length = 20 := rfl
  have hl := run_loadCells_list (P := Try.prog) W ⟨g, o, none⟩ (acells x) (fun j u hu => by
    have hj : j < 20 := by
      have := (List.getElem?_eq_some_iff.1 hu).1
      rw [hs] at this; exact this
    rw [Addr.add_lit, hc j hj]; exact hu)
  have hagg : (isAgg 38).run Try.prog W = .ok true W := by
    unfold isAgg
    rw [Sem.run_bind, run_underlying Try.underlying38 W]
    rfl
  have hi : (Try.prog.info? 38).map (fun i => i.size) = some 20 := by kernel_rfl
  rw [hs] at hl
  cases hq : Try.prog.info? 38 with
  | none => simp [hq] at hi
  | some i0 =>
    have hz1 : i0.size = 20 := by simpa [hq] using hi
    simp [loadVar, Sem.run_bind, hagg, sizeOf, typeInfo, hq, hz1, hl]
theorem on_len' {w0 wB w : World} {SB : Nat → Prop} {n L : Nat} {M : List Net.Ml} (h : Hid (On w0 wB SB n M w)) (hL : Hid (M.length = L)) : Calls Try.prog 15 #[.pointer (some ⟨n, 0, none⟩)] w fun e w' => e = .returned (.int .i64 (L : Int)) ∧ w = w' := by
  rw [← hL.out]
  exact on_len h
theorem on_all' {w0 wB w : World} {SB : Nat → Prop} {n L : Nat} {M : List Net.Ml} (h : Hid (On w0 wB SB n M w)) (hL : Hid (M.length = L)) : Calls Try.prog 17 #[.pointer (some ⟨n, 0, none⟩)] w fun e w' => ∃ A c, e = .returned (.slice A L c) ∧ Hid (Below w.heap.size w w') := by
  refine (on_all h).mono ?_
  rintro e w' ⟨A, c, ms, rfl, _, _, _, hb⟩
  exact ⟨A, c, by rw [hL.out], hb⟩
end Go.Proofs.Ytlejlmlgcehjiaa
