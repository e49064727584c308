/-
  The contract of put of the document's disk: a file in its place among the others.
-/
import Derived.Test.YtceldekbkffhpaaQRow
import Derived.Test.YtceldekbkffhpaaDRow
namespace Go.Proofs.Ytceldekbkffhpaa
open Go.RowKit
def PutRel (fs : List Dsk.Fl) (f : Dsk.Fl) (p j : Nat) (is : Bool) (out : List Dsk.Fl) : Prop :=
  (is = false ∧ j ≤ p ∧ out = fs.take j) ∨ (is = true ∧ p < j ∧ out = (fs.take j).insertIdx p f)
theorem PutRel.pass {fs out : List Dsk.Fl} {f : Dsk.Fl} {p j : Nat} (h : PutRel fs f p j false out) (hj : j < fs.length) (hp : j < p) : PutRel fs f p (j + 1) false (out ++ [fs[j]]) := by
  rcases h with ⟨_, _, rfl⟩ | ⟨h, _⟩
  · exact .inl ⟨rfl, hp, (List.take_succ_eq_append_getElem hj).symm⟩
  · cases h
theorem PutRel.now {fs out : List Dsk.Fl} {f : Dsk.Fl} {j : Nat} (h : PutRel fs f j j false out) (hj : j < fs.length) : PutRel fs f j (j + 1) true (out ++ [f] ++ [fs[j]]) := by
  rcases h with ⟨_, _, rfl⟩ | ⟨h, _⟩
  · refine .inr ⟨rfl, Nat.lt_succ_self _, ?_⟩
    have hl : (fs.take j).length = j := by rw [List.length_take]; omega
    rw [List.take_succ_eq_append_getElem hj, ins_snoc (by rw [hl]; exact Nat.le_refl _)]
    congr 1
    have : ∀ (l : List Dsk.Fl), l.insertIdx l.length f = l ++ [f] := fun l => by induction l with
      | nil => rfl
      | cons a l ih => simp
    have h2 := this (fs.take j)
    rw [hl] at h2
    exact h2.symm
  · cases h
theorem PutRel.on {fs out : List Dsk.Fl} {f : Dsk.Fl} {p j : Nat} (h : PutRel fs f p j true out) (hj : j < fs.length) : PutRel fs f p (j + 1) true (out ++ [fs[j]]) := by
  rcases h with ⟨h, _⟩ | ⟨_, h1, rfl⟩
  · cases h
  · refine .inr ⟨rfl, by omega, ?_⟩
    rw [List.take_succ_eq_append_getElem hj, ins_snoc (by rw [List.length_take]; omega)]
theorem PutRel.len {fs out : List Dsk.Fl} {f : Dsk.Fl} {p j : Nat} {is : Bool} (h : PutRel fs f p j is out) (hj : j ≤ fs.length) : out.length = if is then j + 1 else j := by
  rcases h with ⟨rfl, _, rfl⟩ | ⟨rfl, h1, rfl⟩
  · simp; omega
  · rw [List.length_insertIdx, List.length_take]
    rw [if_pos (by omega)]
    simp; omega
theorem PutRel.all {fs out : List Dsk.Fl} {f : Dsk.Fl} {p : Nat} {is : Bool} (h : PutRel fs f p fs.length is out) (hp : p ≤ fs.length) : fs.insertIdx p f = if is then out else out ++ [f] := by
  rcases h with ⟨rfl, h1, rfl⟩ | ⟨rfl, h1, rfl⟩
  · obtain rfl : p = fs.length := by omega
    rw [List.take_length]
    have : ∀ (l : List Dsk.Fl), l.insertIdx l.length f = l ++ [f] := fun l => by induction l with
      | nil => rfl
      | cons a l ih => simp
    exact this fs
  · rw [List.take_length]; rfl
theorem owns_shape {w : World} {base n : Nat} {e : TypeId} {v : Value} {xs : List Value} (h : w.ownsRow base e 3 v (n + 1) xs) : ∃ g cap, v = .slice (some ⟨g, 0, none⟩) (n + 1) cap := by
  rcases h.2 with ⟨_, h0⟩ | ⟨g, cap, _, e, _⟩
  · omega
  · exact ⟨g, cap, e⟩
theorem box_cells (w : World) (t : TypeId) (x y z : Value) : ∃ w', w.alloc (.cells #[x, y, z] t) = w' ∧ Below w.heap.size w w' ∧ w.heap.size < w'.heap.size ∧ w'.cell? ⟨w.heap.size, 0, none⟩ = some x ∧ w'.cell? ⟨w.heap.size, 1, none⟩ = some y ∧ w'.cell? ⟨w.heap.size, 2, none⟩ = some z := by
  have h := three_cells w t x y z
  refine ⟨_, rfl, (Below.refl _ w).alloc (Nat.le_refl _) _, by simp, ?_, ?_, ?_⟩
  · have := h 0 x rfl; rwa [Addr.add_lit, Nat.zero_add] at this
  · have := h 1 y rfl; rwa [Addr.add_lit, Nat.zero_add] at this
  · have := h 2 z rfl; rwa [Addr.add_lit, Nat.zero_add] at this
section
variable {w w' : World} {d : Nat} {D : Dsk.Dk} {S : Nat → Prop} {v kv : Value} {set : Bool} {left : Nat} {K : List Int}
/-- Another row in the place of the files. -/
theorem QAt.rows {w1 : World} {v' : Value} {fs' : List Dsk.Fl} (h : QAt w d D S v set left kv K) (hb : Below w.heap.size w w1) (hr : w1.ownsRow w.heap.size 67 3 v' fs'.length (qRow fs')) (hg : Dsk.Good { D with fs := fs' }) :
    QAt (w1.setCell ⟨d, 3, none⟩ v') d { D with fs := fs' } (fun k => S k ∨ v'.ownBlock = some k) v' set left kv K ∧ Foot (fun k => k = d) w (w1.setCell ⟨d, 3, none⟩ v') := by
  have hdl := lt_of_block h.head
  have hf : Foot (fun k => k = d) w1 (w1.setCell ⟨d, 3, none⟩ v') := Foot.set (fun k => k = d) w1 _ _ rfl
  have hff : Foot (fun k => k = d) w (w1.setCell ⟨d, 3, none⟩ v') := (below_foot hb : Foot (fun k => k = d) w w1).trans hf fun _ _ h => h
  have hnew : ∀ k, v'.ownBlock = some k → w.heap.size ≤ k ∧ k < w1.heap.size := fun k hk => World.ownsRow.lt hr k hk
  have h0 : w1.ownsRow 0 67 3 v' fs'.length (qRow fs') := by
    refine ⟨hr.1, ?_⟩
    rcases hr.2 with h' | ⟨g, cap, cur, rfl, _, rest⟩
    · exact .inl h'
    · exact .inr ⟨g, cap, cur, rfl, Nat.zero_le _, rest⟩
  refine ⟨⟨(h.head.foot (below_foot (S := fun _ => False) hb) fun e => e).write 3 v', owns_foot h0 hf fun k hk e => ?_, h.keep.foot hff fun k hk e => (h.koff k hk).1 e, h.klen, h.lmax, h.fail, fun e => ?_, fun k hk => ⟨(h.koff k hk).1, fun e => ?_⟩, fun k hk => ⟨Nat.lt_of_lt_of_le (h.kin k hk).1 hff.size, .inl (h.kin k hk).2⟩, fun k hk => .inr hk, .inl h.din, fun k hk => ?_, hg⟩, hff⟩
  · have := (hnew k hk).1; omega
  · have := (hnew d e).1; omega
  · have h1 := (hnew k e).1
    have h2 := (h.kin k hk).1
    omega
  · rcases hk with hk | hk
    · exact Nat.lt_of_lt_of_le (h.lt k hk) hff.size
    · exact Nat.lt_of_lt_of_le (hnew k hk).2 hf.size
def flA (f : Dsk.Fl) : Value := .agg #[.string f.name, .string (str f.data), .int .i64 (f.sure : Int)]
def PutPost (w : World) (d : Nat) (D' : Dsk.Dk) (S : Nat → Prop) (set : Bool) (left : Nat) (kv : Value) (K : List Int) (e : Ending) (w' : World) : Prop :=
  e = .returned (.tuple #[]) ∧ ∃ v', QAt w' d D' (fun k => S k ∨ v'.ownBlock = some k) v' set left kv K ∧ Foot (fun k => k = d) w w' ∧ ∀ k, v'.ownBlock = some k → w.heap.size ≤ k
set_option maxRecDepth 100000 in
set_option maxHeartbeats 4000000 in
theorem qput_at (f : Dsk.Fl) (h : QAt w d D S v set left kv K) (hn : f.name ∉ Dsk.names D.fs) (hl : D.fs.length ≤ 15) (hg : Dsk.Good { D with fs := Dsk.put D.fs f }) :
    Calls Try.prog 65 #[.pointer (some ⟨d, 0, none⟩), .agg #[.string f.name, .string (str f.data), .int .i64 (f.sure : Int)]] w (PutPost w d { D with fs := Dsk.put D.fs f } S set left kv K) := by
  obtain ⟨i0, hi0, hz0, hz1, hz2⟩ := info_parts Try.info_qfile
  have k3 := h.head.cells.2.2.2.1
  have z3 := h.head.cells.2.2.2.2.2.2.2 3
  have hdl := lt_of_block h.head
  obtain ⟨A, c, hv, hlc, hcm, _⟩ := h.len
  have HF := Lib.hid (fun i (hi : i < D.fs.length) => h.at_ hi)
  have HQ := Lib.hid h
  have HG := Lib.hid hg
  have hpl := Dsk.place_le' D.fs f.name
  have HB := Lib.hid (fun i (hi : i < D.fs.length) => (show (i < Dsk.place (Dsk.names D.fs) f.name ∧ Dsk.nlt f.name D.fs[i].name = false) ∨ (Dsk.place (Dsk.names D.fs) f.name ≤ i ∧ Dsk.nlt f.name D.fs[i].name = true) by
    rcases Nat.lt_or_ge i (Dsk.place (Dsk.names D.fs) f.name) with h1 | h1
    · have h2 := Dsk.before (ns := Dsk.names D.fs) h1 (by rw [Dsk.names_len]; exact hi)
      rw [qnames_at D.fs hi] at h2
      exact .inl ⟨h1, Dsk.nlt_asymm h2⟩
    · have h2 := Dsk.behind h.good.rise h1 (by rw [Dsk.names_len]; exact hi)
      rw [qnames_at D.fs hi] at h2
      exact .inr ⟨h1, Dsk.nlt_total h2 fun e => hn (by rw [← e]; exact List.mem_map_of_mem (List.getElem_mem hi))⟩))
  have HP := Lib.hid (show Dsk.put D.fs f = D.fs.insertIdx (Dsk.place (Dsk.names D.fs) f.name) f from rfl)
  generalize Dsk.place (Dsk.names D.fs) f.name = p at *
  have HFC : Hid (qCells f = [.string f.name, .string (str f.data), .int .i64 (f.sure : Int)]) := rfl
  have HPR := Lib.hid (fun j is out => (id : PutRel D.fs f p j is out → PutRel D.fs f p j is out))
  subst hv
  unfold maxLen at hcm
  generalize f.name = fn at *
  generalize str f.data = fd at *
  generalize f.sure = fsu at *
  clear h hn hg
  go_enter Try.func65, Try.ntmps65
  go_wp2_with fail
  obtain ⟨w0, hw0, hB0, hlw, R0, R1, R2⟩ := box_cells w 67 (.string fn) (.string fd) (.int .i64 (fsu : Int))
  rw [hw0]
  clear hw0
  have k3 := (hB0.cell (p := ⟨d, 3, none⟩) hdl).trans k3
  have HF := Lib.hid (fun i (hi : i < D.fs.length) => (show ∃ g c', (Value.slice A D.fs.length c) = .slice (some ⟨g, 0, none⟩) D.fs.length c' ∧ g < w0.heap.size ∧ w0.cell? ⟨g, i * 3, none⟩ = some (.string D.fs[i].name) ∧ w0.cell? ⟨g, i * 3 + 1, none⟩ = some (.string (str D.fs[i].data)) ∧ w0.cell? ⟨g, i * 3 + 2, none⟩ = some (.int .i64 (D.fs[i].sure : Int)) by
    obtain ⟨g, c', hv, _, _, _, hgl, c1, c2, c3, _⟩ := HF.out i hi
    exact ⟨g, c', hv, Nat.lt_of_lt_of_le hgl hB0.size, (hB0.cell (p := ⟨g, i * 3, none⟩) hgl).trans c1, (hB0.cell (p := ⟨g, i * 3 + 1, none⟩) hgl).trans c2, (hB0.cell (p := ⟨g, i * 3 + 2, none⟩) hgl).trans c3⟩))
  have hdl0 : d < w0.heap.size := Nat.lt_of_lt_of_le hdl hB0.size
  go_loopw [4, 5, 6] (fun o b i wr => ∃ (j n : Nat) (OA : Option Addr) (oc : Nat) (is : Bool) (out : List Dsk.Fl), j ≤ D.fs.length ∧ n ≤ 16 ∧ Hid (n = out.length) ∧ Hid (PutRel D.fs f p j is out) ∧ i = .int .i64 j ∧ b = .bool is ∧ o = .slice OA n oc ∧ Hid (wr.ownsRow w0.heap.size 67 3 (.slice OA n oc) n (qRow out)) ∧ Below w0.heap.size w0 wr) (fun _ _ i _ => D.fs.length - (intOf i).toNat)
  case atStart => exact ⟨0, 0, none, 0, false, [], Nat.zero_le _, Nat.zero_le _, Lib.hid rfl, Lib.hid (.inl ⟨rfl, Nat.zero_le _, by simp⟩), rfl, rfl, rfl, Lib.hid (World.ownsRow_nil _ _ _ _), Below.refl _ _⟩
  case round =>
    obtain ⟨j, n, OA, oc, is, out, hj, hn16, HN, HR, rfl, rfl, rfl, HO, hb⟩ := hrel
    have q3 := (hb.cell (p := ⟨d, 3, none⟩) hdl0).trans k3
    have r0 := (hb.cell (p := ⟨w.heap.size, 0, none⟩) hlw).trans R0
    have r1 := (hb.cell (p := ⟨w.heap.size, 1, none⟩) hlw).trans R1
    have r2 := (hb.cell (p := ⟨w.heap.size, 2, none⟩) hlw).trans R2
    have hsz := hb.size
    by_cases hlt : j < D.fs.length
    · obtain ⟨g, c', hv, hgl, c1, c2, c3⟩ := HF.out j hlt
      injection hv with hv1 _ hv2
      subst hv1; subst hv2
      have d1 := (hb.cell (p := ⟨g, j * 3, none⟩) hgl).trans c1
      have d2 := (hb.cell (p := ⟨g, j * 3 + 1, none⟩) hgl).trans c2
      have d3 := (hb.cell (p := ⟨g, j * 3 + 2, none⟩) hgl).trans c3
      have HNL := Lib.hid (HN.out.trans (HR.out.len hj))
      have hnj : n + 1 ≤ 16 := by have := HNL.out; cases is <;> simp at this <;> omega
      have hmx : n + 1 ≤ maxLen := Nat.le_trans (show n + 1 ≤ 17 by omega) (by decide)
      have HX := Lib.hid (fun (l : List Dsk.Fl) => (show qRow (l ++ [D.fs[j]]) = qRow l ++ [.string D.fs[j].name, .string (str D.fs[j].data), .int .i64 (D.fs[j].sure : Int)] by rw [qRow_append]; rfl))
      have HBJ := Lib.hid (HB.out j hlt)
      cases is with
      | true =>
        have HON := Lib.hid (PutRel.on HR.out hlt)
        generalize D.fs[j] = x at *
        generalize x.name = a at *
        generalize str x.data = t at *
        generalize x.sure = sr at *
        go_wp2_with fail
        go_quiet (fail)
        have hbq := qsame_drewN hb nq
        have HOq : Hid ((wr.drewN nq).ownsRow w0.heap.size 67 3 (.slice OA n oc) n (qRow out)) := HO.out
        clear hb HO q3 r0 r1 r2 d1 d2 d3 hsz
        generalize wr.drewN nq = wq at *
        have hb := hbq
        have HO := HOq
        clear hbq HOq
        have q3 := (hb.cell (p := ⟨d, 3, none⟩) hdl0).trans k3
        have r0 := (hb.cell (p := ⟨w.heap.size, 0, none⟩) hlw).trans R0
        have r1 := (hb.cell (p := ⟨w.heap.size, 1, none⟩) hlw).trans R1
        have r2 := (hb.cell (p := ⟨w.heap.size, 2, none⟩) hlw).trans R2
        have d1 := (hb.cell (p := ⟨g, j * 3, none⟩) hgl).trans c1
        have d2 := (hb.cell (p := ⟨g, j * 3 + 1, none⟩) hgl).trans c2
        have d3 := (hb.cell (p := ⟨g, j * 3 + 2, none⟩) hgl).trans c3
        have hsz := hb.size
        go_wp2_with (at_builtin; refine wpList_append_own _ rfl _ _ 45 rfl w0.heap.size 67 i0 (.agg #[.string ⟨#[]⟩, .string ⟨#[]⟩, .int .i64 0]) 3 40 Try.underlying45 hi0 hz0 hz1 hz2 rfl (by decide) _ _ _ rfl (World.ownsRow.alloc HO.out _) ⟨wq.heap.size, 0, none⟩ 1 1 [.string a, .string t, .int .i64 (sr : Int)] rfl rfl (three_cells _ _ _ _ _) (fun x hx => by simp at hx; rcases hx with rfl | rfl | rfl <;> rfl) hmx (by omega) (by have := hb.size; simp; omega) ?_; intro v1 w1 hown1 hgrow1 _; have hg1 : (wq.alloc (.cells #[.string a, .string t, .int .i64 (sr : Int)] 67)).grownBy w1 (Value.slice OA n oc).ownBlock := hgrow1; have hb1 : Below w0.heap.size w0 w1 := (hb.alloc hb.size _).grown hg1 (Nat.le_trans hb.size (by simp)) (fun j e => (World.ownsRow.lt HO.out j e).1); obtain ⟨g1, cap1, rfl⟩ := owns_shape hown1)
        go_roundw
        case rel => exact ⟨j + 1, n + 1, some ⟨g1, 0, none⟩, cap1, true, out ++ [x], by omega, by omega, Lib.hid (by rw [List.length_append, ← HN.out]; rfl), HON, by go_num, rfl, rfl, Lib.hid (by rw [HX.out]; exact hown1), hb1⟩
        case measure => simp [intOf]; omega
      | false =>
        rcases HBJ.out with ⟨hp, hb0⟩ | ⟨hp, hb0⟩
        · have HON := Lib.hid (PutRel.pass HR.out hlt hp)
          generalize D.fs[j] = x at *
          generalize x.name = a at *
          generalize str x.data = t at *
          generalize x.sure = sr at *
          have t1 : Op.bytesLess fn.toList a.toList = false := hb0
          clear hb0 HBJ hp
          go_wp2_with fail
          go_quiet (fail)
          have hbq := qsame_drewN hb nq
          have HOq : Hid ((wr.drewN nq).ownsRow w0.heap.size 67 3 (.slice OA n oc) n (qRow out)) := HO.out
          clear hb HO q3 r0 r1 r2 d1 d2 d3 hsz
          generalize wr.drewN nq = wq at *
          have hb := hbq
          have HO := HOq
          clear hbq HOq
          have q3 := (hb.cell (p := ⟨d, 3, none⟩) hdl0).trans k3
          have r0 := (hb.cell (p := ⟨w.heap.size, 0, none⟩) hlw).trans R0
          have r1 := (hb.cell (p := ⟨w.heap.size, 1, none⟩) hlw).trans R1
          have r2 := (hb.cell (p := ⟨w.heap.size, 2, none⟩) hlw).trans R2
          have d1 := (hb.cell (p := ⟨g, j * 3, none⟩) hgl).trans c1
          have d2 := (hb.cell (p := ⟨g, j * 3 + 1, none⟩) hgl).trans c2
          have d3 := (hb.cell (p := ⟨g, j * 3 + 2, none⟩) hgl).trans c3
          have hsz := hb.size
          go_wp2_with (at_builtin; refine wpList_append_own _ rfl _ _ 45 rfl w0.heap.size 67 i0 (.agg #[.string ⟨#[]⟩, .string ⟨#[]⟩, .int .i64 0]) 3 40 Try.underlying45 hi0 hz0 hz1 hz2 rfl (by decide) _ _ _ rfl (World.ownsRow.alloc HO.out _) ⟨wq.heap.size, 0, none⟩ 1 1 [.string a, .string t, .int .i64 (sr : Int)] rfl rfl (three_cells _ _ _ _ _) (fun x hx => by simp at hx; rcases hx with rfl | rfl | rfl <;> rfl) hmx (by omega) (by have := hb.size; simp; omega) ?_; intro v1 w1 hown1 hgrow1 _; have hg1 : (wq.alloc (.cells #[.string a, .string t, .int .i64 (sr : Int)] 67)).grownBy w1 (Value.slice OA n oc).ownBlock := hgrow1; have hb1 : Below w0.heap.size w0 w1 := (hb.alloc hb.size _).grown hg1 (Nat.le_trans hb.size (by simp)) (fun j e => (World.ownsRow.lt HO.out j e).1); obtain ⟨g1, cap1, rfl⟩ := owns_shape hown1)
          go_roundw
          case rel => exact ⟨j + 1, n + 1, some ⟨g1, 0, none⟩, cap1, false, out ++ [x], by omega, by omega, Lib.hid (by rw [List.length_append, ← HN.out]; rfl), HON, by go_num, rfl, rfl, Lib.hid (by rw [HX.out]; exact hown1), hb1⟩
          case measure => simp [intOf]; omega
        · have hpj : p = j := by
            rcases HR.out with ⟨_, h1, _⟩ | ⟨h1, _⟩
            · omega
            · cases h1
          subst hpj
          have HON := Lib.hid (PutRel.now HR.out hlt)
          generalize D.fs[p] = x at *
          generalize x.name = a at *
          generalize str x.data = t at *
          generalize x.sure = sr at *
          have t1 : Op.bytesLess fn.toList a.toList = true := hb0
          have hn15 : n + 1 + 1 ≤ 17 := by omega
          have hmx2 : n + 1 + 1 ≤ maxLen := Nat.le_trans hn15 (by decide)
          have hnp : n = p := by have := HNL.out; simpa using this
          have hn14 : n + 1 + 1 ≤ 16 := by omega
          have HX2 : Hid (qRow (out ++ [f] ++ [x]) = qRow out ++ [.string fn, .string fd, .int .i64 (fsu : Int)] ++ [.string a, .string t, .int .i64 (sr : Int)]) := by
            unfold Hid; rw [HX.out, qRow_append, show qRow [f] = qCells f from by simp [qRow], HFC.out]
          clear hb0 HBJ hp hnp
          go_wp2_with fail
          go_quiet (fail)
          have hbq := qsame_drewN hb nq
          have HOq : Hid ((wr.drewN nq).ownsRow w0.heap.size 67 3 (.slice OA n oc) n (qRow out)) := HO.out
          clear hb HO q3 r0 r1 r2 d1 d2 d3 hsz
          generalize wr.drewN nq = wq at *
          have hb := hbq
          have HO := HOq
          clear hbq HOq
          have q3 := (hb.cell (p := ⟨d, 3, none⟩) hdl0).trans k3
          have r0 := (hb.cell (p := ⟨w.heap.size, 0, none⟩) hlw).trans R0
          have r1 := (hb.cell (p := ⟨w.heap.size, 1, none⟩) hlw).trans R1
          have r2 := (hb.cell (p := ⟨w.heap.size, 2, none⟩) hlw).trans R2
          have d1 := (hb.cell (p := ⟨g, p * 3, none⟩) hgl).trans c1
          have d2 := (hb.cell (p := ⟨g, p * 3 + 1, none⟩) hgl).trans c2
          have d3 := (hb.cell (p := ⟨g, p * 3 + 2, none⟩) hgl).trans c3
          have hsz := hb.size
          go_wp2_with (first | (at_builtin; refine wpList_append_own _ rfl _ _ 45 rfl w0.heap.size 67 i0 (.agg #[.string ⟨#[]⟩, .string ⟨#[]⟩, .int .i64 0]) 3 40 Try.underlying45 hi0 hz0 hz1 hz2 rfl (by decide) _ _ _ rfl (World.ownsRow.alloc HO.out _) ⟨wq.heap.size, 0, none⟩ 1 1 [.string fn, .string fd, .int .i64 (fsu : Int)] rfl rfl (three_cells _ _ _ _ _) (fun x hx => by simp at hx; rcases hx with rfl | rfl | rfl <;> rfl) hmx (by omega) (by have := hb.size; simp; omega) ?_; intro v1 w1 hown1 hgrow1 _; have hg1 : (wq.alloc (.cells #[.string fn, .string fd, .int .i64 (fsu : Int)] 67)).grownBy w1 (Value.slice OA n oc).ownBlock := hgrow1; have hb1 : Below w0.heap.size w0 w1 := (hb.alloc hb.size _).grown hg1 (Nat.le_trans hb.size (by simp)) (fun j e => (World.ownsRow.lt HO.out j e).1); obtain ⟨g1, cap1, rfl⟩ := owns_shape hown1; have p3 := (hb1.cell (p := ⟨d, 3, none⟩) hdl0).trans k3; have p4 := (hb1.cell (p := ⟨g, p * 3, none⟩) hgl).trans c1; have p5 := (hb1.cell (p := ⟨g, p * 3 + 1, none⟩) hgl).trans c2; have p6 := (hb1.cell (p := ⟨g, p * 3 + 2, none⟩) hgl).trans c3) | (at_builtin; refine wpList_append_own _ rfl _ _ 45 rfl w0.heap.size 67 i0 (.agg #[.string ⟨#[]⟩, .string ⟨#[]⟩, .int .i64 0]) 3 40 Try.underlying45 hi0 hz0 hz1 hz2 rfl (by decide) _ _ _ rfl (World.ownsRow.alloc hown1 _) ⟨w1.heap.size, 0, none⟩ 1 1 [.string a, .string t, .int .i64 (sr : Int)] rfl rfl (three_cells _ _ _ _ _) (fun x hx => by simp at hx; rcases hx with rfl | rfl | rfl <;> rfl) hmx2 (by omega) (by have := hb1.size; simp; omega) ?_; intro v2 w2 hown2 hgrow2 _; have hg2 : (w1.alloc (.cells #[.string a, .string t, .int .i64 (sr : Int)] 67)).grownBy w2 (Value.slice (some ⟨g1, 0, none⟩) (n + 1) cap1).ownBlock := hgrow2; have hb2 : Below w0.heap.size w0 w2 := (hb1.alloc hb1.size _).grown hg2 (Nat.le_trans hb1.size (by simp)) (fun j e => (World.ownsRow.lt hown1 j e).1); obtain ⟨g2, cap2, rfl⟩ := owns_shape hown2))
          go_roundw
          case rel => exact ⟨p + 1, n + 1 + 1, some ⟨g2, 0, none⟩, cap2, true, out ++ [f] ++ [x], by omega, hn14, Lib.hid (by rw [List.length_append, List.length_append, ← HN.out]; rfl), HON, by go_num, rfl, rfl, Lib.hid (by rw [HX2.out]; exact hown2), hb2⟩
          case measure => simp [intOf]; omega
    · obtain rfl : j = D.fs.length := by omega
      have HA := Lib.hid (PutRel.all HR.out hpl)
      have hbw : Below w.heap.size w wr := hB0.trans (hb.mono hB0.size)
      have fz := (HQ.out.head.foot (below_foot (S := fun _ => False) hbw) fun e => e).cells.2.2.2.2.2.2.2 3
      have HFIN := Lib.hid (fun (w1 : World) (v' : Value) (m : Nat) (o : List Dsk.Fl) (hb1 : Below w.heap.size w w1) (ho : w1.ownsRow w0.heap.size 67 3 v' m (qRow o)) (hm : m = o.length) (hp : Dsk.put D.fs f = o) =>
        (show PutPost w d { D with fs := Dsk.put D.fs f } S set left kv K (.returned (.tuple #[])) (w1.setCell ⟨d, 3, none⟩ v') by
          subst hm
          subst hp
          have hnew : ∀ k, v'.ownBlock = some k → w.heap.size ≤ k := fun k hk => Nat.le_trans hB0.size (World.ownsRow.lt ho k hk).1
          obtain ⟨q1, q2⟩ := QAt.rows HQ.out hb1 (own_base ho hnew) HG.out
          exact ⟨rfl, v', q1, q2, hnew⟩))
      cases is with
      | true =>
        go_wp2_with fail
        go_end0
        exact HFIN.out wr _ n out hbw HO.out HN.out (by rw [HP.out]; exact HA.out)
      | false =>
        have HNL := Lib.hid (HN.out.trans (HR.out.len (Nat.le_refl _)))
        have hnj : n + 1 ≤ 16 := by have := HNL.out; simp at this; omega
        have hmx : n + 1 ≤ maxLen := Nat.le_trans (show n + 1 ≤ 17 by omega) (by decide)
        have HX2 : Hid (qRow (out ++ [f]) = qRow out ++ [.string fn, .string fd, .int .i64 (fsu : Int)]) := by
          unfold Hid; rw [qRow_append, show qRow [f] = qCells f from by simp [qRow], HFC.out]
        go_wp2_with (at_builtin; refine wpList_append_own _ rfl _ _ 45 rfl w0.heap.size 67 i0 (.agg #[.string ⟨#[]⟩, .string ⟨#[]⟩, .int .i64 0]) 3 40 Try.underlying45 hi0 hz0 hz1 hz2 rfl (by decide) _ _ _ rfl (World.ownsRow.alloc HO.out _) ⟨wr.heap.size, 0, none⟩ 1 1 [.string fn, .string fd, .int .i64 (fsu : Int)] rfl rfl (three_cells _ _ _ _ _) (fun x hx => by simp at hx; rcases hx with rfl | rfl | rfl <;> rfl) hmx (by omega) (by have := hb.size; simp; omega) ?_; intro v1 w1 hown1 hgrow1 _; have hg1 : (wr.alloc (.cells #[.string fn, .string fd, .int .i64 (fsu : Int)] 67)).grownBy w1 (Value.slice OA n oc).ownBlock := hgrow1; have hb1 : Below w0.heap.size w0 w1 := (hb.alloc hb.size _).grown hg1 (Nat.le_trans hb.size (by simp)) (fun j e => (World.ownsRow.lt HO.out j e).1); obtain ⟨g1, cap1, rfl⟩ := owns_shape hown1; have q31 := (hb1.cell (p := ⟨d, 3, none⟩) hdl0).trans k3; have hbw1 : Below w.heap.size w w1 := hB0.trans (hb1.mono hB0.size); have fz1 := (HQ.out.head.foot (below_foot (S := fun _ => False) hbw1) fun e => e).cells.2.2.2.2.2.2.2 3)
        go_end0
        refine HFIN.out w1 _ (n + 1) (out ++ [f]) hbw1 (by rw [HX2.out]; exact hown1) (by rw [List.length_append, ← HN.out]; rfl) (by rw [HP.out]; exact HA.out)
end
end Go.Proofs.Ytceldekbkffhpaa
