/-
  The contracts of without and put of the document's disk: new rows.
-/
import Derived.Test.YtceldekbkffhpaaQDown
import Derived.Maps.AppendAt
namespace Go.Proofs.Ytceldekbkffhpaa
open Go.RowKit
theorem del_miss {fs : List Dsk.Fl} {i k : Nat} (hi : i < fs.length) (h : i ≠ k) : (fs.take (i + 1)).eraseIdx k = (fs.take i).eraseIdx k ++ [fs[i]] := by
  rw [List.take_succ_eq_append_getElem hi]
  rcases Nat.lt_or_ge k i with h1 | h1
  · rw [List.eraseIdx_append_of_lt_length (by rw [List.length_take]; omega)]
  · rw [List.eraseIdx_of_length_le (by rw [List.length_append, List.length_take]; simp; omega), List.eraseIdx_of_length_le (by rw [List.length_take]; omega)]
theorem del_hit {fs : List Dsk.Fl} {i : Nat} (hi : i < fs.length) : (fs.take (i + 1)).eraseIdx i = (fs.take i).eraseIdx i := by
  have hl : (fs.take i).length = i := by rw [List.length_take]; omega
  rw [List.take_succ_eq_append_getElem hi, List.eraseIdx_append_of_length_le (by rw [hl]; exact Nat.le_refl _), hl, Nat.sub_self, List.eraseIdx_of_length_le (k := i) (l := fs.take i) (by rw [hl]; exact Nat.le_refl _)]
  simp
theorem ins_snoc {fs : List Dsk.Fl} {f x : Dsk.Fl} : ∀ {p : Nat}, p ≤ fs.length → (fs ++ [x]).insertIdx p f = fs.insertIdx p f ++ [x] := by
  induction fs with
  | nil => intro p hp; obtain rfl : p = 0 := by simpa using hp
           rfl
  | cons a fs ih =>
    intro p hp
    cases p with
    | zero => rfl
    | succ p => simp only [List.cons_append, List.insertIdx_succ_cons]; rw [ih (by simpa using hp)]
theorem three_cells (w : World) (t : TypeId) (x y z : Value) : ∀ j u, [x, y, z][j]? = some u → (w.alloc (.cells #[x, y, z] t)).cell? ((⟨w.heap.size, 0, none⟩ : Addr).add j) = some u := by
  intro j u hu
  have hj : j < 3 := by
    have := (List.getElem?_eq_some_iff.1 hu).1
    simpa using this
  have h := heap_alloc_new w (.cells #[x, y, z] t)
  rw [Addr.add_lit, Nat.zero_add]
  simp only [World.cell?, h]
  rcases (show j = 0 ∨ j = 1 ∨ j = 2 by omega) with rfl | rfl | rfl <;> simpa using hu
section
variable {w w' : World} {d : Nat} {D : Dsk.Dk} {S : Nat → Prop} {v kv : Value} {set : Bool} {left : Nat} {K : List Int}
def RowPost (w : World) (fs : List Dsk.Fl) (e : Ending) (w' : World) : Prop := ∃ A c, e = .returned (.slice A fs.length c) ∧ w'.ownsRow w.heap.size 67 3 (.slice A fs.length c) fs.length (qRow fs) ∧ Below w.heap.size w w'
set_option maxRecDepth 100000 in
set_option maxHeartbeats 1000000 in
theorem qwithout_at (k : Nat) (h : QAt w d D S v set left kv K) :
    Calls Try.prog 63 #[.pointer (some ⟨d, 0, none⟩), .int .i64 k] w (RowPost w (D.fs.eraseIdx k)) := by
  obtain ⟨i0, hi0, hz0, hz1, hz2⟩ := info_parts Try.info_qfile
  have k3 := h.head.cells.2.2.2.1
  have hdl := lt_of_block h.head
  have hfew := h.few
  obtain ⟨A, c, hv, hlc, hcm, _⟩ := h.len
  have HF := Lib.hid (fun i (hi : i < D.fs.length) => h.at_ hi)
  subst hv
  unfold maxLen at hcm
  clear h
  go_enter Try.func63, Try.ntmps63
  go_wp2_with fail
  go_loopw [5, 6] (fun o i wr => ∃ (j n : Nat) (OA : Option Addr) (oc : Nat), j ≤ D.fs.length ∧ n ≤ j ∧ Hid (n = ((D.fs.take j).eraseIdx k).length) ∧ i = .int .i64 j ∧ o = .slice OA n oc ∧ Hid (wr.ownsRow w.heap.size 67 3 (.slice OA n oc) n (qRow ((D.fs.take j).eraseIdx k))) ∧ Below w.heap.size w wr) (fun _ i _ => D.fs.length - (intOf i).toNat)
  case atStart => exact ⟨0, 0, none, 0, Nat.zero_le _, Nat.le_refl _, Lib.hid (by simp), rfl, rfl, Lib.hid (by simpa [qRow] using World.ownsRow_nil _ _ _ _), Below.refl _ _⟩
  case round =>
    obtain ⟨j, n, OA, oc, hj, hnj, HN, rfl, rfl, HO, hb⟩ := hrel
    have q3 := (hb.cell (p := ⟨d, 3, none⟩) hdl).trans k3
    have hsz := hb.size
    by_cases hlt : j < D.fs.length
    · obtain ⟨g, c', hv, _, _, _, hgl, c1, c2, c3, _⟩ := HF.out j hlt
      injection hv with hv1 _ hv2
      subst hv1; subst hv2
      have d1 := (hb.cell (p := ⟨g, j * 3, none⟩) hgl).trans c1
      have d2 := (hb.cell (p := ⟨g, j * 3 + 1, none⟩) hgl).trans c2
      have d3 := (hb.cell (p := ⟨g, j * 3 + 2, none⟩) hgl).trans c3
      clear c1 c2 c3
      by_cases hjk : j = k
      · have HD := Lib.hid (del_hit hlt)
        subst hjk
        go_wp2_with fail
        go_roundw
        case rel => exact ⟨j + 1, n, OA, oc, by omega, by omega, Lib.hid (by rw [HD.out]; exact HN.out), by go_num, rfl, Lib.hid (by rw [HD.out]; exact HO.out), hb⟩
        case measure => simp [intOf]; omega
      · have HD := Lib.hid (del_miss hlt hjk)
        have t1 : ((j : Int) == (k : Int)) = false := by rw [beq_eq_false_iff_ne]; omega
        have HX : Hid (qRow ((D.fs.take (j + 1)).eraseIdx k) = qRow ((D.fs.take j).eraseIdx k) ++ [.string D.fs[j].name, .string (str D.fs[j].data), .int .i64 (D.fs[j].sure : Int)]) := by
          unfold Hid; rw [HD.out, qRow_append]; rfl
        have HL : Hid (((D.fs.take (j + 1)).eraseIdx k).length = n + 1) := by unfold Hid; rw [HD.out, List.length_append, ← HN.out]; rfl
        clear hjk
        generalize D.fs[j].name = a at *
        generalize str D.fs[j].data = t at *
        generalize D.fs[j].sure = sr at *
        have hmx : n + 1 ≤ maxLen := Nat.le_trans (show n + 1 ≤ 17 by omega) (by decide)
        go_wp2_with (at_builtin; refine wpList_append_own _ rfl _ _ 45 rfl w.heap.size 67 i0 (.agg #[.string ⟨#[]⟩, .string ⟨#[]⟩, .int .i64 0]) 3 40 Try.underlying45 hi0 hz0 hz1 hz2 rfl (by decide) _ _ _ rfl (World.ownsRow.alloc HO.out _) ⟨wr.heap.size, 0, none⟩ 1 1 [.string a, .string t, .int .i64 (sr : Int)] rfl rfl (three_cells _ _ _ _ _) (fun x hx => by simp at hx; rcases hx with rfl | rfl | rfl <;> rfl) hmx (by omega) (by simp; omega) ?_; intro v' w3 hown' hgrow3 _)
        have hg3 : (wr.alloc (.cells #[.string a, .string t, .int .i64 (sr : Int)] 67)).grownBy w3 (Value.slice OA n oc).ownBlock := hgrow3
        have hb3 : Below w.heap.size w w3 := (hb.alloc hb.size _).grown hg3 (Nat.le_trans hb.size (by simp)) (fun j e => (World.ownsRow.lt HO.out j e).1)
        obtain ⟨g3, cap3, rfl⟩ : ∃ g cap, v' = .slice (some ⟨g, 0, none⟩) (n + 1) cap := by
          rcases hown'.2 with ⟨_, h0⟩ | ⟨g, cap, _, e, _⟩
          · omega
          · exact ⟨g, cap, e⟩
        go_roundw
        case rel => exact ⟨j + 1, n + 1, some ⟨g3, 0, none⟩, cap3, by omega, by omega, Lib.hid HL.out.symm, by go_num, rfl, Lib.hid (by rw [HX.out]; exact hown'), hb3⟩
        case measure => simp [intOf]; omega
    · obtain rfl : j = D.fs.length := by omega
      rw [List.take_length] at HN HO
      go_wp2_with fail
      go_ret
      exact ⟨OA, oc, by rw [← HN.out]; rfl, by rw [← HN.out]; exact HO.out, hb⟩
end
end Go.Proofs.Ytceldekbkffhpaa
