/-
  Rows of ints of one's own, and what is appended to them; appendOrder of package mail.
-/
import Derived.Test.YtkdnhfeamibmdaaDoorMlCheck
import Derived.Test.YtkdnhfeamibmdaaDoorRcRead
import Derived.Deep.Upon
import Derived.Deep.RegionHeld3
namespace Go.Proofs.YtkdnhfeamibmdaaDoor
open Go.RowKit
/-- A row of one's own that reads so. -/
def OwnI (w : World) (base : Nat) (v : Value) (ns : List Int) : Prop := w.ownsRow base 3 1 v ns.length (ns.map (Value.int .i64))
theorem Tryd.info_int : (Tryd.prog.info? 3).map (fun i => (i.zero, i.size, i.bytes)) = some (some (.int .i64 0), 1, 8) := by kernel_rfl
theorem OwnI.nil (w : World) (base : Nat) : OwnI w base (.slice none 0 0) [] := World.ownsRow_nil _ _ _ _
theorem OwnI.foot {S : Nat → Prop} {w w' : World} {base : Nat} {v : Value} {ns : List Int} (h : OwnI w base v ns) (hf : Foot S w w') (hn : ∀ k, v.ownBlock = some k → ¬ S k) : OwnI w' base v ns := owns_foot h hf hn
theorem OwnI.below {w w' : World} {base : Nat} {v : Value} {ns : List Int} (h : OwnI w base v ns) (hb : Below w.heap.size w w') : OwnI w' base v ns := h.foot (below_foot hb : Foot (fun _ => False) w w') fun _ _ e => e
theorem OwnI.lt {w : World} {base : Nat} {v : Value} {ns : List Int} (h : OwnI w base v ns) {k : Nat} (hk : v.ownBlock = some k) : base ≤ k ∧ k < w.heap.size := World.ownsRow.lt h k hk
theorem OwnI.is_slice {w : World} {base : Nat} {v : Value} {ns : List Int} (h : OwnI w base v ns) : ∃ A c, v = .slice A ns.length c ∧ ns.length ≤ c ∧ c ≤ maxLen ∧ (A = none → ns.length = 0 ∧ c = 0) := by
  rcases h.2 with ⟨rfl, h0⟩ | ⟨g, cap, cur, rfl, _, _, hnc, hcm, _⟩
  · exact ⟨none, 0, by rw [h0], by omega, Nat.zero_le _, fun _ => ⟨h0, rfl⟩⟩
  · exact ⟨_, _, rfl, hnc, hcm, fun e => by cases e⟩
/-- A row that was made whole. -/
theorem OwnI.lit {w : World} {base g : Nat} {ns : List Int} (h : IntRow w g ns) (hb : base ≤ g) (hn : ns.length ≤ maxLen) : OwnI w base (.slice (some ⟨g, 0, none⟩) ns.length ns.length) ns :=
  ⟨by simp, .inr ⟨g, ns.length, _, rfl, hb, h, Nat.le_refl _, hn, by simp, by simp [← List.map_take]⟩⟩
theorem OwnI.cells {w : World} {base : Nat} {A : Option Addr} {n c : Nat} {ns : List Int} (h : OwnI w base (.slice A n c) ns) (h0 : 0 < ns.length) : ∃ g, A = some ⟨g, 0, none⟩ ∧ base ≤ g ∧ g < w.heap.size ∧ n = ns.length ∧ ∀ j (hj : j < ns.length), w.cell? ⟨g, j, none⟩ = some (.int .i64 ns[j]) := by
  have h' := h
  rcases h.2 with ⟨_, h1⟩ | ⟨g, cap, cur, hv, hb, hg, hnc, hcm, hcs, ht⟩
  · omega
  · injection hv with e1 e2 e3
    subst e1 e2 e3
    refine ⟨g, rfl, hb, lt_of_block hg, rfl, fun j hj => ?_⟩
    rw [World.ownsRow.cellAt h' j (by omega), List.getElem?_map, List.getElem?_eq_getElem hj]
    rfl
theorem ints_one (l : List Int) : ∀ u ∈ l.map (Value.int .i64), u.oneCell' = true := by
  intro u hu
  obtain ⟨x, _, rfl⟩ := List.mem_map.1 hu
  rfl
/-- 'append' of a literal's ints to a row of one's own. -/
theorem run_app_row {w : World} {base g : Nat} {v : Value} {ns xs : List Int} (ho : OwnI w base v ns) (hr : IntRow w g xs) (hb : base ≤ w.heap.size) {N : Nat} (hN : N = ns.length + xs.length) (hl : N ≤ 1000000) :
    ∃ A c w', (Builtin.append_ #[57, 57] 57 #[v, .slice (some ⟨g, 0, none⟩) xs.length xs.length]).run Tryd.prog w = .ok (.slice A N c) w' ∧ OwnI w' base (.slice A N c) (ns ++ xs) ∧ w.grownBy w' v.ownBlock := by
  subst hN
  obtain ⟨i0, hi0, hz0, hz1, hz2⟩ := info_parts Tryd.info_int
  obtain ⟨v', w', hr', ho', hg, _⟩ := run_append_own (P := Tryd.prog) w base 57 57 3 i0 (.int .i64 0) 1 8 Tryd.underlying57 hi0 hz0 hz1 hz2 rfl (by decide) v ns.length (ns.map (Value.int .i64)) ho ⟨g, 0, none⟩ xs.length xs.length (xs.map (Value.int .i64)) (by simp) (fun j u hu => by
      have hj : j < xs.length := by
        have := (List.getElem?_eq_some_iff.1 hu).1
        simpa using this
      rw [Addr.add_lit, Nat.zero_add, hr.cell hj, ← hu, List.getElem?_map, List.getElem?_eq_getElem hj]
      rfl) (ints_one _) (Nat.le_trans hl (by decide)) (by omega) hb
  have ho2 : OwnI w' base v' (ns ++ xs) := by
    unfold OwnI
    rw [List.length_append, List.map_append]
    exact ho'
  obtain ⟨A, c, rfl, _⟩ := ho2.is_slice
  rw [List.length_append] at hr' ho2
  exact ⟨A, c, w', hr', ho2, hg⟩
/-- What a call that appends leaves. -/
def ApPost (base : Nat) (v : Value) (ms : List Int) (w : World) (e : Ending) (w' : World) : Prop := ∃ A c, e = .returned (.slice A ms.length c) ∧ OwnI w' base (.slice A ms.length c) ms ∧ Foot (fun k => v.ownBlock = some k) w w'
set_option maxRecDepth 100000 in
set_option maxHeartbeats 2000000 in
theorem appendOrder_any {w : World} {base n c : Nat} {A : Option Addr} {ns : List Int} (o : Od) (ho : OwnI w base (.slice A n c) ns) (hb : base ≤ w.heap.size) (hn : ns.length ≤ 900000) :
    Calls Tryd.prog 68 #[.slice A n c, o.v] w (ApPost base (.slice A n c) (ns ++ o.l) w) := by
  obtain ⟨a, b, x, d, f⟩ := o
  simp only [Od.v, Od.l]
  obtain ⟨w0, HW0⟩ : ∃ w0, Hid (w.alloc (.cells #[.int .i64 a, .int .i64 b, .int .i64 x, .int .i64 d, .int .i64 f] 28) = w0) := ⟨_, Lib.hid rfl⟩
  obtain ⟨w1, HW1⟩ : ∃ w1, Hid (w0.alloc (.cells #[.int .i64 a, .int .i64 b, .int .i64 x, .int .i64 d, .int .i64 f] 3) = w1) := ⟨_, Lib.hid rfl⟩
  have hb0 : Below w.heap.size w w0 := by rw [← HW0.out]; exact (Below.refl _ _).alloc (Nat.le_refl _) _
  have hb1 : Below w.heap.size w w1 := by rw [← HW1.out]; exact hb0.alloc hb0.size _
  have B0 : w0.heap[w.heap.size]? = some (.cells #[.int .i64 a, .int .i64 b, .int .i64 x, .int .i64 d, .int .i64 f] 28 (0, 0)) := by rw [← HW0.out]; exact heap_alloc_new _ _
  have hr1 : IntRow w1 w0.heap.size [a, b, x, d, f] := by rw [← HW1.out]; exact heap_alloc_new _ _
  obtain ⟨A', c', w2, hrun, ho2, hg⟩ := run_app_row (ho.below hb1) hr1 (Nat.le_trans hb hb1.size) (N := ns.length + 5) (by simp) (by omega)
  have HAP := Lib.hid hrun
  have HO := Lib.hid ho2
  have HF : Hid (Foot (fun k => (Value.slice A n c).ownBlock = some k) w w2) := (below_foot hb1 : Foot (fun k => (Value.slice A n c).ownBlock = some k) w w1).trans (Foot.grown hg) (fun _ _ h => h)
  have c0 : w0.cell? ⟨w.heap.size, 0, none⟩ = some (.int .i64 a) := by rw [Lib.cell_of_heap B0]; rfl
  have c1 : w0.cell? ⟨w.heap.size, 1, none⟩ = some (.int .i64 b) := by rw [Lib.cell_of_heap B0]; rfl
  have c2 : w0.cell? ⟨w.heap.size, 2, none⟩ = some (.int .i64 x) := by rw [Lib.cell_of_heap B0]; rfl
  have c3 : w0.cell? ⟨w.heap.size, 3, none⟩ = some (.int .i64 d) := by rw [Lib.cell_of_heap B0]; rfl
  have c4 : w0.cell? ⟨w.heap.size, 4, none⟩ = some (.int .i64 f) := by rw [Lib.cell_of_heap B0]; rfl
  have HL : Hid ((ns ++ [a, b, x, d, f]).length = ns.length + 5) := by show _ = _; simp
  clear ho hb0 hb1 B0 hr1 hrun ho2 hg
  go_enter Tryd.func68, Tryd.ntmps68
  go_wp2_with (first | rw [HW0.out] | rw [HW1.out] | (at_builtin; refine wpList_append_run _ rfl _ _ _ _ rfl _ _ rfl rfl HAP.out ?_))
  go_ret
  exact ⟨A', c', by rw [HL.out]; rfl, by rw [HL.out]; exact HO.out, HF.out⟩
end Go.Proofs.YtkdnhfeamibmdaaDoor
