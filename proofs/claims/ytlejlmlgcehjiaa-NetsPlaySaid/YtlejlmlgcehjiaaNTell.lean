/-
  What is told: tell, at, Look.
-/
import Derived.Test.YtlejlmlgcehjiaaNSend
import Derived.Shelf.Abstract
import Derived.Laws.ResultCell
namespace Go.Proofs.Ytlejlmlgcehjiaa
open Go.RowKit
section
variable {P : Program}
/-- A load whose run is known, in the walk. -/
theorem wpList_load_run {ops : Array Oper} {rest : List Oper} {o : Oper} {a : Act} {w : World} {Q : Exit → Act → World → Prop} (hgd : o.guard = none) (ty : TypeId) (x : Operand) (ho : o.op = .load ty x)
    (ad : Addr) (hx : a.eval x = .pointer (some ad)) {v : Value} (hr : (loadVar ty ad).run P w = .ok v w) (h : wpList P ops Q rest (a.put o.dst v) w) : wpList P ops Q (o :: rest) a w :=
  wpList_plain hgd fun K hK => by
    unfold Oper.wp execOp
    simp only [ho, hx, Instr.loadAt, Instr.sureAddr, Sem.run_bind, Sem.run_pure, Result.andThen_ok, hr]
    exact hK _ _ h
theorem results_row_tmp {fn : Func} {p u : Tmp} {ty : TypeId} (h : fn.results = #[.cell p ty, .tmp u]) (tmps : Array Value) (w : World) (g : Nat) (t : TypeId) (cs : Array Value) (fr : Nat × Nat) (d : TypeDesc)
    (hp : tmps.getD p undef = .pointer (some ⟨g, 0, none⟩)) (hg : w.heap[g]? = some (.cells cs t fr))
    (hu : P.underlying ty = some d) (hd : (match d with | .struct _ | .array _ _ => true | _ => false) = true) (hi : (P.info? ty).map (·.size) = some cs.size) :
    (results fn tmps).run P w = .ok (.tuple #[.agg cs, tmps.getD u undef]) w := by
  rw [results_cell_tmp h, hp]
  simp [asAddr, Result.andThen, run_loadVar_row w g t ty cs fr d hg hu hd hi]
end
theorem run_load_mail {W : World} {g o : Nat} {h : Net.Hd} {v : Value} (hc : ∀ j, j < 18 → W.cell? ⟨g, o + j, none⟩ = (mcells h v)[j]?) : (loadVar 36 ⟨g, o, none⟩).run Try.prog W = .ok (.agg (mcells h v).toArray) W := by
  have hl := run_loadCells_list (P := Try.prog) W ⟨g, o, none⟩ (mcells h v) (fun j u hu => by
    have hj : j < 18 := by
      have := (List.getElem?_eq_some_iff.1 hu).1
      exact this
    rw [Addr.add_lit, hc j hj]; exact hu)
  have hagg : (isAgg 36).run Try.prog W = .ok true W := by
    unfold isAgg
    rw [Sem.run_bind, run_underlying Try.underlying36 W]
    rfl
  obtain ⟨i0, hi, hz0, hz1, hz2⟩ := info_parts Try.info_mail
  have hs : (mcells h v).length = 18 := rfl
  rw [hs] at hl
  simp [loadVar, Sem.run_bind, hagg, sizeOf, typeInfo, hi, hz1, hl]
/-- What a call tells, and leaves: the net, and a message of whose entries the net has nothing. -/
def ToldAt (w : World) (n : Nat) (S : Nat → Prop) (R : List Net.Ml × Net.Ml × Bool) (v : Value) (w' : World) : Prop :=
  ∃ S', IsNet HN w' n R.1 S' ∧ Foot S w w' ∧ (∀ k, S' k → S k ∨ w.heap.size ≤ k) ∧ EOwn w' 0 v R.2.1.es ∧ ∀ k, v.ownBlock = some k → ¬ S' k ∧ (S k ∨ w.heap.size ≤ k)
def Told (w : World) (n : Nat) (S : Nat → Prop) (R : List Net.Ml × Net.Ml × Bool) (e : Ending) (w' : World) : Prop :=
  ∃ A c, e = .returned (.tuple #[.agg (mcells R.2.1.h (.slice A R.2.1.es.length c)).toArray, .bool R.2.2]) ∧ Hid (ToldAt w n S R (.slice A R.2.1.es.length c) w')
section
variable {w w' w0 : World} {n : Nat} {M : List Net.Ml} {S : Nat → Prop} {R : List Net.Ml × Net.Ml × Bool} {v : Value}
theorem ToldAt.from_ (hb : Below w0.heap.size w0 w) (h : ToldAt w n S R v w') : ToldAt w0 n S R v w' := by
  obtain ⟨S', h1, h2, h3, h4, h5⟩ := h
  exact ⟨S', h1, (below_foot hb : Foot S w0 w).trans h2 fun _ _ e => e, fun k hk => (h3 k hk).imp id fun e => Nat.le_trans hb.size e, h4, fun k hk => ⟨(h5 k hk).1, (h5 k hk).2.imp id fun e => Nat.le_trans hb.size e⟩⟩
/-- A block that is none of the net's is written. -/
theorem ToldAt.box {w'' : World} {b : Nat} (h : ToldAt w n S R v w') (hb : b < w.heap.size) (hn : ¬ S b) (hf : Foot (fun k => k = b) w' w'') (hw : Below b w0 w) (hsz : w0.heap.size = b) (hlt : ∀ k, S k → k < b) : ToldAt w0 n S R v w'' := by
  obtain ⟨S', h1, h2, h3, h4, h5⟩ := h
  have hne : ∀ k, S k ∨ w.heap.size ≤ k → ¬ k = b := fun k e => by
    rintro rfl
    rcases e with e | e
    · exact hn e
    · omega
  refine ⟨S', h1.foot hf fun k hk => hne k (h3 k hk), ?_, fun k hk => (h3 k hk).imp id fun e => by omega, h4.foot hf fun k hk => hne k (h5 k hk).2, fun k hk => ⟨(h5 k hk).1, (h5 k hk).2.imp id fun e => by omega⟩⟩
  have f1 : Foot S w0 w := below_foot (hsz ▸ hw)
  have f2 := f1.trans h2 fun _ _ e => e
  refine ⟨hf.os.trans f2.os, hf.tape.trans f2.tape, hf.output.trans f2.output, Nat.le_trans f2.size hf.size, fun k hk hs => (hf.block k (Nat.lt_of_lt_of_le hk f2.size) (by omega)).trans (f2.block k hk hs)⟩
/-- A message told, with a row of its own in new memory: nothing else has changed. -/
def TellPost (m : Net.Ml) (w : World) (e : Ending) (w' : World) : Prop := ∃ A c, e = .returned (.tuple #[.agg (mcells m.h (.slice A m.es.length c)).toArray, .bool true]) ∧ Hid (EOwn w' w.heap.size (.slice A m.es.length c) m.es) ∧ Hid (Below w.heap.size w w')
set_option maxRecDepth 100000 in
set_option maxHeartbeats 1000000 in
theorem tell_new {i : Nat} (hi : i < M.length) (h : IsNet HN w n M S) : Calls Try.prog 30 #[.pointer (some ⟨n, 0, none⟩), .int .i64 (i : Int)] w (TellPost M[i] w) := by
  have hb0 : Below w.heap.size w (w.alloc (.cells #[.int .i64 0, .int .i64 0, .int .i64 0, .int .i64 0, .int .i64 0, .int .i64 0, .int .i64 0, .int .i64 0, .int .i64 0, .slice none 0 0, .int .i64 0, .int .i64 0, .int .i64 0, .int .i64 0, .int .i64 0, .int .i64 0, .int .i64 0, .int .i64 0] 36)) := (Below.refl _ _).alloc (Nat.le_refl _) _
  have hN := h.below hb0
  have hlt0 := fun k hk => h.lt (k := k) hk
  have NB := Lib.hid (heap_alloc_new w (.cells #[.int .i64 0, .int .i64 0, .int .i64 0, .int .i64 0, .int .i64 0, .int .i64 0, .int .i64 0, .int .i64 0, .int .i64 0, .slice none 0 0, .int .i64 0, .int .i64 0, .int .i64 0, .int .i64 0, .int .i64 0, .int .i64 0, .int .i64 0, .int .i64 0] 36))
  have hsz : (w.alloc (.cells #[.int .i64 0, .int .i64 0, .int .i64 0, .int .i64 0, .int .i64 0, .int .i64 0, .int .i64 0, .int .i64 0, .int .i64 0, .slice none 0 0, .int .i64 0, .int .i64 0, .int .i64 0, .int .i64 0, .int .i64 0, .int .i64 0, .int .i64 0, .int .i64 0] 36)).heap.size = w.heap.size + 1 := by simp
  generalize hW : w.alloc (.cells #[.int .i64 0, .int .i64 0, .int .i64 0, .int .i64 0, .int .i64 0, .int .i64 0, .int .i64 0, .int .i64 0, .int .i64 0, .slice none 0 0, .int .i64 0, .int .i64 0, .int .i64 0, .int .i64 0, .int .i64 0, .int .i64 0, .int .i64 0, .int .i64 0] 36) = W at *
  have HW := Lib.hid hW
  obtain ⟨v, ms, hA⟩ := id hN
  have hi' : i < ms.length := by rw [hA.len]; exact hi
  obtain ⟨g, c, rfl, h1, h2, h3, h4, h5⟩ := hA.mails.at_ hi'
  obtain ⟨k0, k1, kz⟩ := hn_cells hA.head
  have hm : M[i] = ms[i].ml := by simp only [← hA.ml, List.getElem_map]
  have hld := Lib.hid (run_load_mail (W := W) (g := g) (o := i * 18) (h := ms[i].h) (v := ms[i].v) h4)
  have hE := (hA.mails.own _ (List.getElem_mem hi')).ents
  have HOW := Lib.hid (own_any ms[i].h hE (hA.mails.few _ (List.getElem_mem hi')))
  rw [hm]
  unfold TellPost
  dsimp only [MM.ml]
  generalize ms[i].h = hd at *
  generalize ms[i].v = mv at *
  generalize ms[i].es = es at *
  have hii : (i : Int) < (ms.length : Int) := by omega
  have HFIN : Hid (∀ W1 W2 A' c', EOwn W1 W.heap.size (.slice A' es.length c') es → Below W.heap.size W W1 → Foot (fun k => k = w.heap.size) W1 W2 → EOwn W2 w.heap.size (.slice A' es.length c') es ∧ Below w.heap.size w W2) := fun W1 W2 A' c' hE1 hB1 hf =>
    ⟨(hE1.foot hf fun k hk => by have := (hE1.lt hk).1; omega).base (by omega), (hb0.trans (hB1.mono (by omega))).trans (hf.below fun k hk => ⟨by have := hB1.size; omega, by omega⟩)⟩
  have HST := Lib.hid (fun (W1 : World) A' c' (hB1 : Below W.heap.size W W1) => store_mail hd A' es.length c' ((hB1.block w.heap.size (by omega)).trans NB.out) rfl)
  clear hN h hA hm hE hi' h4 h5 hlt0 hW hb0
  go_enter Try.func30, Try.ntmps30
  go_wp2_with (first | rw [HW.out] | (refine wpList_load_run rfl 36 _ rfl ⟨g, i * 18, none⟩ rfl hld.out ?_))
  refine HOW.out.mono ?_
  rintro e W1 ⟨A', c', rfl, HE1, HB1⟩
  obtain ⟨W2, hst, k2, f2⟩ := HST.out W1 A' c' HB1.out
  obtain ⟨HF1, HF2⟩ := HFIN.out _ _ _ _ HE1.out HB1.out f2
  have HF := Lib.hid HF1
  have HG := Lib.hid HF2
  have hm18 : (mcells hd (.slice A' es.length c')).length = 18 := rfl
  clear f2 HF1 HF2
  go_wp2_with fail
  refine bodyPost_ret (results_row_tmp rfl _ _ _ _ _ _ _ rfl k2 Try.underlying36 rfl (by kernel_rfl)) rfl ?_
  exact ⟨A', c', rfl, HF, HG⟩
theorem tell_any {i : Nat} (hi : i < M.length) (h : IsNet HN w n M S) : Calls Try.prog 30 #[.pointer (some ⟨n, 0, none⟩), .int .i64 (i : Int)] w (Told w n S (M, M[i], true)) := by
  refine (tell_new hi h).mono ?_
  rintro e w' ⟨A, c, h1, h2, h3⟩
  exact ⟨A, c, h1, Lib.hid ⟨S, h.below h3.out, below_foot h3.out, fun _ h => .inl h, h2.out.base (Nat.zero_le _), fun k hk => ⟨fun hs => by have := h.lt hs; have := (h2.out.lt hk).1; omega, .inr (h2.out.lt hk).1⟩⟩⟩
end
end Go.Proofs.Ytlejlmlgcehjiaa
