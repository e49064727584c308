/-
  Decode of package records.
-/
import Derived.Test.YtkdnhfeamibmdaaDoorRcRead
import Derived.Test.YtkdnhfeamibmdaaDoorRcCheck
import Derived.Laws.CopyOwn
namespace Go.Proofs.YtkdnhfeamibmdaaDoor
open Go.RowKit
def DecPost (l : List UInt8) (w : World) (e : Ending) (w' : World) : Prop :=
  Below w.heap.size w w' ∧ ((decR? l = none ∧ e = .returned (.tuple #[recV0, .int .i64 30])) ∨
    ∃ (r : Rec) (A A' : Option Addr) (c c' : Nat), decR? l = some r ∧ e = .returned (.tuple #[r.v (.slice A r.es.length c) (.slice A' r.fd.length c'), .int .i64 0]) ∧
      OwnE w' w.heap.size (.slice A r.es.length c) r.es ∧ OwnF w' w.heap.size (.slice A' r.fd.length c') r.fd)
section
variable {P : Program}
/-- A store whose run is known, in the walk. -/
theorem wpList_store_known {ops : Array Oper} {rest : List Oper} {o : Oper} {a : Act} {w w' : World} {Q : Exit → Act → World → Prop} (hgd : o.guard = none) (ty : TypeId) (x y : Operand) (ho : o.op = .store ty x y)
    (ad : Addr) (v : Value) (hx : a.eval x = .pointer (some ad)) (hy : a.eval y = v) (hr : (storeVar ty ad v).run P w = .ok () w') (h : wpList P ops Q rest (a.put o.dst undef) w') : wpList P ops Q (o :: rest) a w :=
  wpList_plain hgd fun K hK => by
    unfold Oper.wp execOp
    simp only [ho, hx, hy, Instr.storeAt, Instr.sureAddr, Sem.run_bind, Sem.run_pure, Result.andThen_ok, hr]
    exact hK _ _ h
theorem results_row_one {fn : Func} {p u : Tmp} {ty : TypeId} (h : fn.results = #[.cell p ty, .tmp u]) (tmps : Array Value) (w : World) (g : Nat) (t : TypeId) (cs : Array Value) (fr : Nat × Nat) (d : TypeDesc)
    (hp : tmps.getD p undef = .pointer (some ⟨g, 0, none⟩)) (hg : w.heap[g]? = some (.cells cs t fr))
    (hu : P.underlying ty = some d) (hd : (match d with | .struct _ | .array _ _ => true | _ => false) = true) (hi : (P.info? ty).map (·.size) = some cs.size) :
    (results fn tmps).run P w = .ok (.tuple #[.agg cs, tmps.getD u undef]) w := by
  rw [results_cell_tmp h, hp]
  simp [asAddr, Result.andThen, run_loadVar_row w g t ty cs fr d hg hu hd hi]
end
theorem store_rec {W : World} {g : Nat} {old : Array Value} {t : TypeId} (a0 a1 a2 a3 a4 a5 : Int) (A A' : Option Addr) (n c n' c' : Nat) (hg : W.heap[g]? = some (.cells old t (0, 0))) (ho : old.size = 8) :
    (storeVar 25 ⟨g, 0, none⟩ (.agg #[.int .i64 a0, .int .i64 a1, .int .i64 a2, .int .i64 a3, .int .i64 a4, .int .i64 a5, .slice A n c, .slice A' n' c'])).run Tryd.prog W = .ok () (W.setRow g #[.int .i64 a0, .int .i64 a1, .int .i64 a2, .int .i64 a3, .int .i64 a4, .int .i64 a5, .slice A n c, .slice A' n' c']) :=
  run_storeVar_row (P := Tryd.prog) W g t 25 old #[.int .i64 a0, .int .i64 a1, .int .i64 a2, .int .i64 a3, .int .i64 a4, .int .i64 a5, .slice A n c, .slice A' n' c'] hg (by kernel_rfl) ho (by simp [Value.oneCell'])
theorem own_rd {w : World} {base n size : Nat} {t : TypeId} {v : Value} {xs : List Int} (h : w.ownsRow base t size v n (xs.map (Value.int .i64))) : RdB w.heap.size w v n xs := by
  have h' := h
  rcases h.2 with ⟨rfl, h0⟩ | ⟨g, cap, cur, rfl, hb, hg, hnc, hcm, hcs, ht⟩
  · exact ⟨none, 0, by rw [h0], by omega, Nat.zero_le _, fun _ => ⟨h0, rfl⟩, fun e => by omega⟩
  · refine ⟨_, cap, rfl, hnc, hcm, (fun e => by cases e), fun _ => ⟨g, 0, rfl, lt_of_block hg, fun j u hu => ?_⟩⟩
    have hj : j < n * size := by rw [← h.1, List.length_map]; exact (List.getElem?_eq_some_iff.1 hu).1
    rw [Nat.zero_add, World.ownsRow.cellAt h' j hj, List.getElem?_map, hu]
    rfl
theorem OwnE.es {w : World} {base : Nat} {v : Value} {es : List En} (h : OwnE w base v es) : EsB w.heap.size w v es := own_rd h
theorem OwnF.fd {w : World} {base : Nat} {v : Value} {fd : List Sp} (h : OwnF w base v fd) : FdB w.heap.size w v fd := own_rd h
theorem OwnE.foot {S : Nat → Prop} {w w' : World} {base : Nat} {v : Value} {es : List En} (h : OwnE w base v es) (hf : Foot S w w') (hn : ∀ k, v.ownBlock = some k → ¬ S k) : OwnE w' base v es := owns_foot h hf hn
theorem OwnF.foot {S : Nat → Prop} {w w' : World} {base : Nat} {v : Value} {fd : List Sp} (h : OwnF w base v fd) (hf : Foot S w w') (hn : ∀ k, v.ownBlock = some k → ¬ S k) : OwnF w' base v fd := owns_foot h hf hn
theorem OwnE.below {w w' : World} {base : Nat} {v : Value} {es : List En} (h : OwnE w base v es) (hb : Below w.heap.size w w') : OwnE w' base v es := h.foot (below_foot hb : Foot (fun _ => False) w w') fun _ _ e => e
theorem OwnF.below {w w' : World} {base : Nat} {v : Value} {fd : List Sp} (h : OwnF w base v fd) (hb : Below w.heap.size w w') : OwnF w' base v fd := h.foot (below_foot hb : Foot (fun _ => False) w w') fun _ _ e => e
theorem recCheck_own {r : Rec} {ve vf : Value} {b1 b2 : Nat} {w : World} (hA : AskR w) (hE : OwnE w b1 ve r.es) (hF : OwnF w b2 vf r.fd) (hn : r.es.length ≤ 100000) (hm : r.fd.length ≤ 100000) :
    Calls Tryd.prog 10 #[r.v ve vf] w (NumPost (.int .i64 r.err) w) := recCheck_any r hA hE.es hF.fd hn hm
set_option maxRecDepth 100000 in
set_option maxHeartbeats 8000000 in
theorem recDecode_any {s : ByteArray} (hs : s.size ≤ 1000000) {w : World} (hA : AskR w) : Calls Tryd.prog 14 #[.string s] w (DecPost (bytesOf s) w) := by
  obtain ⟨w0, HW0⟩ : ∃ w0, Hid (w0 = w.alloc (.cells #[.int .i64 0, .int .i64 0, .int .i64 0, .int .i64 0, .int .i64 0, .int .i64 0, .slice none 0 0, .slice none 0 0] 25)) := ⟨_, Lib.hid rfl⟩
  have hb0 : Below w.heap.size w w0 := by rw [HW0.out]; exact (Below.refl _ _).alloc (Nat.le_refl _) _
  have hs0 : w0.heap.size = w.heap.size + 1 := by rw [HW0.out]; simp
  have hx0 : w0.heap[w.heap.size]? = some (.cells #[.int .i64 0, .int .i64 0, .int .i64 0, .int .i64 0, .int .i64 0, .int .i64 0, .slice none 0 0, .slice none 0 0] 25 (0, 0)) := by rw [HW0.out]; exact heap_alloc_new _ _
  have G1 := Lib.hid (read_any hs (hA.keep hb0))
  rw [HW0.out] at G1
  have HAK := Lib.hid (fun X (hb : Below w.heap.size w X) => hA.keep hb)
  have HB0 := Lib.hid hb0
  have HS0 := Lib.hid hs0
  have HX0 := Lib.hid hx0
  have HD : Hid (decR? (bytesOf s) = match rd (bytesOf s) with | .none => .none | some r => if r.may then some r else .none) := rfl
  clear hb0 hs0 hx0 hA
  go_enter Tryd.func14, Tryd.ntmps14
  go_wp2_with fail
  refine (G1.out).mono ?_
  rintro e w1 ⟨hb1, h⟩
  rw [← HW0.out] at hb1 h
  have hs0' := HS0.out
  have hsz1 := hb1.size
  have hX1 := (hb1.block w.heap.size (by omega)).trans HX0.out
  have HB1 := Lib.hid (HB0.out.trans (hb1.mono (by omega)))
  have hz1 : w.heap.size < w1.heap.size := by omega
  clear hb1 G1
  have b0 : w1.cell? ⟨w.heap.size, 0, none⟩ = some (.int .i64 0) := by rw [Lib.cell_of_heap hX1]; rfl
  have b1 : w1.cell? ⟨w.heap.size, 1, none⟩ = some (.int .i64 0) := by rw [Lib.cell_of_heap hX1]; rfl
  have b2 : w1.cell? ⟨w.heap.size, 2, none⟩ = some (.int .i64 0) := by rw [Lib.cell_of_heap hX1]; rfl
  have b3 : w1.cell? ⟨w.heap.size, 3, none⟩ = some (.int .i64 0) := by rw [Lib.cell_of_heap hX1]; rfl
  have b4 : w1.cell? ⟨w.heap.size, 4, none⟩ = some (.int .i64 0) := by rw [Lib.cell_of_heap hX1]; rfl
  have b5 : w1.cell? ⟨w.heap.size, 5, none⟩ = some (.int .i64 0) := by rw [Lib.cell_of_heap hX1]; rfl
  have b6 : w1.cell? ⟨w.heap.size, 6, none⟩ = some (.slice none 0 0) := by rw [Lib.cell_of_heap hX1]; rfl
  have b7 : w1.cell? ⟨w.heap.size, 7, none⟩ = some (.slice none 0 0) := by rw [Lib.cell_of_heap hX1]; rfl
  have f0 : w1.frozen? ⟨w.heap.size, 0, none⟩ = false := Lib.frozen_of_heap hX1 _
  have f1 : w1.frozen? ⟨w.heap.size, 1, none⟩ = false := Lib.frozen_of_heap hX1 _
  have f2 : w1.frozen? ⟨w.heap.size, 2, none⟩ = false := Lib.frozen_of_heap hX1 _
  have f3 : w1.frozen? ⟨w.heap.size, 3, none⟩ = false := Lib.frozen_of_heap hX1 _
  have f4 : w1.frozen? ⟨w.heap.size, 4, none⟩ = false := Lib.frozen_of_heap hX1 _
  have f5 : w1.frozen? ⟨w.heap.size, 5, none⟩ = false := Lib.frozen_of_heap hX1 _
  have f6 : w1.frozen? ⟨w.heap.size, 6, none⟩ = false := Lib.frozen_of_heap hX1 _
  have f7 : w1.frozen? ⟨w.heap.size, 7, none⟩ = false := Lib.frozen_of_heap hX1 _
  have HX1 := Lib.hid hX1
  clear hX1
  obtain ⟨res, HRR⟩ : ∃ res, Hid (decR? (bytesOf s) = res) := ⟨_, Lib.hid rfl⟩
  rw [HRR.out] at HD
  rcases h with ⟨hr, rfl⟩ | ⟨r, A, A', c, c', hr, rfl, hE, hF⟩
  · rw [hr] at HD
    have HN : Hid (res = none) := HD.out
    have HB := HB1
    clear hr HD
    unfold recV0
    have hxa : (w1.alloc (.cells #[.int .i64 0, .int .i64 0, .int .i64 0, .int .i64 0, .int .i64 0, .int .i64 0, .slice none 0 0, .slice none 0 0] 25)).heap[w.heap.size]? = some (.cells #[.int .i64 0, .int .i64 0, .int .i64 0, .int .i64 0, .int .i64 0, .int .i64 0, .slice none 0 0, .slice none 0 0] 25 (0, 0)) := (Below.heap_alloc _ _ _ hz1).trans HX1.out
    have HST := Lib.hid (store_rec 0 0 0 0 0 0 none none 0 0 0 0 hxa rfl)
    have HXA := Lib.hid hxa
    have HBA := Lib.hid (HB1.out.alloc HB1.out.size (.cells #[.int .i64 0, .int .i64 0, .int .i64 0, .int .i64 0, .int .i64 0, .int .i64 0, .slice none 0 0, .slice none 0 0] 25))
    clear b0 b1 b2 b3 b4 b5 b6 b7 f0 f1 f2 f3 f4 f5 f6 f7 hxa
    go_wp2_with (refine wpList_store_known rfl 25 _ _ rfl ⟨w.heap.size, 0, none⟩ _ rfl rfl HST.out ?_)
    (try simp only [Exit.inBlock, Exit.then]); refine bodyPost_ret (v := .tuple #[.agg #[.int .i64 0, .int .i64 0, .int .i64 0, .int .i64 0, .int .i64 0, .int .i64 0, .slice none 0 0, .slice none 0 0], .int .i64 30]) (by rw [results_row_one (u := 3) rfl _ _ w.heap.size 25 #[.int .i64 0, .int .i64 0, .int .i64 0, .int .i64 0, .int .i64 0, .int .i64 0, .slice none 0 0, .slice none 0 0] (0, 0) _ rfl (setRow_heap _ _ _ _ _ _ HXA.out) Tryd.underlying25 rfl (by kernel_rfl)]; rfl) rfl ?_
    exact ⟨below_setRow HBA.out (Nat.le_refl _) _, .inl ⟨HRR.out.trans HN.out, rfl⟩⟩
  · rw [hr] at HD
    have hlen := rd_some hr
    have HE := Lib.hid hE
    have HF := Lib.hid hF
    have HM : Hid (r.err = if r.may then 0 else 2) := rfl
    obtain ⟨w2, HW2⟩ : ∃ w2, Hid (w2 = w1.alloc (.cells #[.int .i64 r.ki, .int .i64 r.st, .int .i64 r.ep, .int .i64 r.vi, .int .i64 r.fr, .int .i64 r.le, .slice A r.es.length c, .slice A' r.fd.length c'] 25)) := ⟨_, Lib.hid rfl⟩
    have hb2 : Below w1.heap.size w1 w2 := by rw [HW2.out]; exact (Below.refl _ _).alloc (Nat.le_refl _) _
    have hx2 : w2.heap[w1.heap.size]? = some (.cells #[.int .i64 r.ki, .int .i64 r.st, .int .i64 r.ep, .int .i64 r.vi, .int .i64 r.fr, .int .i64 r.le, .slice A r.es.length c, .slice A' r.fd.length c'] 25 (0, 0)) := by rw [HW2.out]; exact heap_alloc_new _ _
    have HB2 := Lib.hid (HB1.out.trans (hb2.mono (by omega)))
    have G2 := Lib.hid (recCheck_own (HAK.out _ HB2.out) (hE.below hb2) (hF.below hb2) (by omega) (by omega))
    rw [HW2.out] at G2
    have HX12 := Lib.hid ((hb2.block w.heap.size hz1).trans HX1.out)
    have HX2 := Lib.hid hx2
    have HBB2 := Lib.hid hb2
    have HZ2 := Lib.hid (show w1.heap.size < w2.heap.size by rw [HW2.out]; simp)
    clear hr hlen hE hF hb2 hx2
    dsimp only at HD
    generalize r.err = er at *
    generalize r.may = my at *
    obtain ⟨ki, st, ep, vi, fr, le, es, fd⟩ := r
    dsimp only [Rec.v] at *
    go_wp2_with fail
    refine (G2.out).mono ?_
    rintro e w3 ⟨rfl, hb3⟩
    rw [← HW2.out] at hb3
    clear b0 b1 b2 b3 b4 b5 b6 b7 f0 f1 f2 f3 f4 f5 f6 f7 G2
    have hz2 := HZ2.out
    have hX3 := (hb3.block w.heap.size (by omega)).trans HX12.out
    have hY3 := (hb3.block w1.heap.size hz2).trans HX2.out
    have hz3 : w1.heap.size < w3.heap.size := by have := hb3.size; omega
    have HB := Lib.hid (HB2.out.trans (hb3.mono (by omega)))
    have HE3 := Lib.hid ((HE.out.below HBB2.out).below hb3)
    have HF3 := Lib.hid ((HF.out.below HBB2.out).below hb3)
    have b0 : w3.cell? ⟨w.heap.size, 0, none⟩ = some (.int .i64 0) := by rw [Lib.cell_of_heap hX3]; rfl
    have b1 : w3.cell? ⟨w.heap.size, 1, none⟩ = some (.int .i64 0) := by rw [Lib.cell_of_heap hX3]; rfl
    have b2 : w3.cell? ⟨w.heap.size, 2, none⟩ = some (.int .i64 0) := by rw [Lib.cell_of_heap hX3]; rfl
    have b3 : w3.cell? ⟨w.heap.size, 3, none⟩ = some (.int .i64 0) := by rw [Lib.cell_of_heap hX3]; rfl
    have b4 : w3.cell? ⟨w.heap.size, 4, none⟩ = some (.int .i64 0) := by rw [Lib.cell_of_heap hX3]; rfl
    have b5 : w3.cell? ⟨w.heap.size, 5, none⟩ = some (.int .i64 0) := by rw [Lib.cell_of_heap hX3]; rfl
    have b6 : w3.cell? ⟨w.heap.size, 6, none⟩ = some (.slice none 0 0) := by rw [Lib.cell_of_heap hX3]; rfl
    have b7 : w3.cell? ⟨w.heap.size, 7, none⟩ = some (.slice none 0 0) := by rw [Lib.cell_of_heap hX3]; rfl
    have y0 : w3.cell? ⟨w1.heap.size, 0, none⟩ = some (.int .i64 ki) := by rw [Lib.cell_of_heap hY3]; rfl
    have y1 : w3.cell? ⟨w1.heap.size, 1, none⟩ = some (.int .i64 st) := by rw [Lib.cell_of_heap hY3]; rfl
    have y2 : w3.cell? ⟨w1.heap.size, 2, none⟩ = some (.int .i64 ep) := by rw [Lib.cell_of_heap hY3]; rfl
    have y3 : w3.cell? ⟨w1.heap.size, 3, none⟩ = some (.int .i64 vi) := by rw [Lib.cell_of_heap hY3]; rfl
    have y4 : w3.cell? ⟨w1.heap.size, 4, none⟩ = some (.int .i64 fr) := by rw [Lib.cell_of_heap hY3]; rfl
    have y5 : w3.cell? ⟨w1.heap.size, 5, none⟩ = some (.int .i64 le) := by rw [Lib.cell_of_heap hY3]; rfl
    have y6 : w3.cell? ⟨w1.heap.size, 6, none⟩ = some (.slice A es.length c) := by rw [Lib.cell_of_heap hY3]; rfl
    have y7 : w3.cell? ⟨w1.heap.size, 7, none⟩ = some (.slice A' fd.length c') := by rw [Lib.cell_of_heap hY3]; rfl
    have f0 : w3.frozen? ⟨w.heap.size, 0, none⟩ = false := Lib.frozen_of_heap hX3 _
    have f1 : w3.frozen? ⟨w.heap.size, 1, none⟩ = false := Lib.frozen_of_heap hX3 _
    have f2 : w3.frozen? ⟨w.heap.size, 2, none⟩ = false := Lib.frozen_of_heap hX3 _
    have f3 : w3.frozen? ⟨w.heap.size, 3, none⟩ = false := Lib.frozen_of_heap hX3 _
    have f4 : w3.frozen? ⟨w.heap.size, 4, none⟩ = false := Lib.frozen_of_heap hX3 _
    have f5 : w3.frozen? ⟨w.heap.size, 5, none⟩ = false := Lib.frozen_of_heap hX3 _
    have f6 : w3.frozen? ⟨w.heap.size, 6, none⟩ = false := Lib.frozen_of_heap hX3 _
    have f7 : w3.frozen? ⟨w.heap.size, 7, none⟩ = false := Lib.frozen_of_heap hX3 _
    have HX3 := Lib.hid hX3
    clear hX3 hY3 hb3
    cases my
    · obtain rfl : er = 2 := HM.out
      have HN : Hid (res = none) := HD.out
      clear HD HM
      have HST := Lib.hid (store_rec 0 0 0 0 0 0 none none 0 0 0 0 HX3.out rfl)
      clear b0 b1 b2 b3 b4 b5 b6 b7 f0 f1 f2 f3 f4 f5 f6 f7
      go_wp2_with (refine wpList_store_known rfl 25 _ _ rfl ⟨w.heap.size, 0, none⟩ _ rfl rfl HST.out ?_)
      (try simp only [Exit.inBlock, Exit.then]); refine bodyPost_ret (v := .tuple #[.agg #[.int .i64 0, .int .i64 0, .int .i64 0, .int .i64 0, .int .i64 0, .int .i64 0, .slice none 0 0, .slice none 0 0], .int .i64 30]) (by rw [results_row_one (u := 3) rfl _ _ w.heap.size 25 #[.int .i64 0, .int .i64 0, .int .i64 0, .int .i64 0, .int .i64 0, .int .i64 0, .slice none 0 0, .slice none 0 0] (0, 0) _ rfl (setRow_heap _ _ _ _ _ _ HX3.out) Tryd.underlying25 rfl (by kernel_rfl)]; rfl) rfl ?_
      exact ⟨below_setRow HB.out (Nat.le_refl _) _, .inl ⟨HRR.out.trans HN.out, rfl⟩⟩
    · obtain rfl : er = 0 := HM.out
      have HN : Hid (res = some ⟨ki, st, ep, vi, fr, le, es, fd⟩) := HD.out
      have HNE : Hid (∀ j, Value.ownBlock (.slice A es.length c) = some j → ¬ (fun j => j = w.heap.size) j) := fun j hj e => by have := (World.ownsRow.lt HE.out j hj).1; dsimp only at e; omega
      have HNF : Hid (∀ j, Value.ownBlock (.slice A' fd.length c') = some j → ¬ (fun j => j = w.heap.size) j) := fun j hj e => by have := (World.ownsRow.lt HF.out j hj).1; dsimp only at e; omega
      have HE4 : Hid (w3.ownsRow w0.heap.size 30 6 (.slice A es.length c) es.length ((es.map En.l).flatten.map (Value.int .i64))) := HE3.out
      have HF4 : Hid (w3.ownsRow w0.heap.size 32 2 (.slice A' fd.length c') fd.length ((fd.map Sp.l).flatten.map (Value.int .i64))) := HF3.out
      clear HD HM
      have HST := Lib.hid (store_rec ki st ep vi fr le A A' es.length c fd.length c' HX3.out rfl)
      clear b0 b1 b2 b3 b4 b5 b6 b7 f0 f1 f2 f3 f4 f5 f6 f7
      go_wp2_with (refine wpList_store_known rfl 25 _ _ rfl ⟨w.heap.size, 0, none⟩ _ rfl rfl HST.out ?_)
      (try simp only [Exit.inBlock, Exit.then]); refine bodyPost_ret (v := .tuple #[.agg #[.int .i64 ki, .int .i64 st, .int .i64 ep, .int .i64 vi, .int .i64 fr, .int .i64 le, .slice A es.length c, .slice A' fd.length c'], .int .i64 0]) (by rw [results_row_one (u := 3) rfl _ _ w.heap.size 25 #[.int .i64 ki, .int .i64 st, .int .i64 ep, .int .i64 vi, .int .i64 fr, .int .i64 le, .slice A es.length c, .slice A' fd.length c'] (0, 0) _ rfl (setRow_heap _ _ _ _ _ _ HX3.out) Tryd.underlying25 rfl (by kernel_rfl)]; rfl) rfl ?_
      refine ⟨below_setRow HB.out (Nat.le_refl _) _, .inr ⟨⟨ki, st, ep, vi, fr, le, es, fd⟩, A, A', c, c', HRR.out.trans HN.out, rfl, ?_, ?_⟩⟩
      · refine owns_weaken (base := w0.heap.size) ?_ (by omega)
        exact owns_foot HE4.out (Foot.row (fun j => j = w.heap.size) _ _ _ rfl) HNE.out
      · refine owns_weaken (base := w0.heap.size) ?_ (by omega)
        exact owns_foot HF4.out (Foot.row (fun j => j = w.heap.size) _ _ _ rfl) HNF.out
end Go.Proofs.YtkdnhfeamibmdaaDoor

