/-
  Decode of package orders: five marks that are the whole text, of an order that may be.
-/
import Derived.Test.YtncbjekmkihilaaDoorOEnc
import Derived.Laws.ResultCell
namespace Go.Proofs.YtncbjekmkihilaaDoor
open Go.RowKit Go.Sort
def intsV (l : List Int) : Value := .agg (l.map fun n => Value.int .i64 n).toArray
/-- What getFields tells of a text. -/
def fieldsR (l : List UInt8) : Value := match gots 5 l 0 with
  | .none => .tuple #[intsV [0, 0, 0, 0, 0], .bool false]
  | some (ns, k) => if k = l.length then .tuple #[intsV ns, .bool true] else .tuple #[intsV [0, 0, 0, 0, 0], .bool false]
set_option maxRecDepth 100000 in
set_option maxHeartbeats 4000000 in
theorem getFields_any (s : ByteArray) (w : World) (hs : s.size ≤ maxLen) : Calls Tryd.prog 21 #[.string s] w (NumPost (fieldsR (bytesOf s)) w) := by
  have HG := Lib.hid (fun (a : Int) X => get_any s a X hs)
  have HL := Lib.hid (bytes_len s)
  obtain ⟨R, hR⟩ : ∃ R, fieldsR (bytesOf s) = R := ⟨_, rfl⟩
  rw [hR]
  have HR := Lib.hid hR
  clear hR
  unfold maxLen at hs
  go_enter Tryd.func21, Tryd.ntmps21
  go_wp2_with fail
  refine wp_loop_rounds 6 ?_
  rw [rounds_succ]
  go_wp2_with fail
  refine (HG.out 0 _).mono ?_
  rintro e u0 ⟨hu0, he⟩
  subst hu0
  rcases hg0 : got (bytesOf s) 0 with _ | ⟨n0, k0⟩
  · rw [hg0] at he; simp only [getR] at he; subst he; have H0 := Lib.hid hg0; clear hg0
    go_wp2_with fail
    (try simp only [Exit.inBlock, Exit.then]); refine bodyPost_ret (v := .tuple #[.agg #[.int .i64 0, .int .i64 0, .int .i64 0, .int .i64 0, .int .i64 0], .bool false]) (by rw [results_cell_tmp rfl]; go_simp) rfl ?_
    exact ⟨by rw [← HR.out]; simp [fieldsR, gots, intsV, H0.out], by repeat' (first | (with_reducible exact Below.refl _ _) | (with_reducible refine below_drewN ?_ _) | (with_reducible refine Below.alloc ?_ ?_ _) | (with_reducible refine Below.setCell ?_ ?_ _) | go_size)⟩
  rw [hg0] at he; simp only [getR] at he; subst he; have H0 := Lib.hid hg0; clear hg0
  go_wp2_with fail
  rw [rounds_succ]
  go_wp2_with fail
  refine (HG.out (k0 : Nat) _).mono ?_
  rintro e u1 ⟨hu1, he⟩
  subst hu1
  rcases hg1 : got (bytesOf s) (k0 : Nat) with _ | ⟨n1, k1⟩
  · rw [hg1] at he; simp only [getR] at he; subst he; have H1 := Lib.hid hg1; clear hg1
    go_wp2_with fail
    (try simp only [Exit.inBlock, Exit.then]); refine bodyPost_ret (v := .tuple #[.agg #[.int .i64 0, .int .i64 0, .int .i64 0, .int .i64 0, .int .i64 0], .bool false]) (by rw [results_cell_tmp rfl]; go_simp) rfl ?_
    exact ⟨by rw [← HR.out]; simp [fieldsR, gots, intsV, H0.out, H1.out], by repeat' (first | (with_reducible exact Below.refl _ _) | (with_reducible refine below_drewN ?_ _) | (with_reducible refine Below.alloc ?_ ?_ _) | (with_reducible refine Below.setCell ?_ ?_ _) | go_size)⟩
  rw [hg1] at he; simp only [getR] at he; subst he; have H1 := Lib.hid hg1; clear hg1
  go_wp2_with fail
  rw [rounds_succ]
  go_wp2_with fail
  refine (HG.out (k1 : Nat) _).mono ?_
  rintro e u2 ⟨hu2, he⟩
  subst hu2
  rcases hg2 : got (bytesOf s) (k1 : Nat) with _ | ⟨n2, k2⟩
  · rw [hg2] at he; simp only [getR] at he; subst he; have H2 := Lib.hid hg2; clear hg2
    go_wp2_with fail
    (try simp only [Exit.inBlock, Exit.then]); refine bodyPost_ret (v := .tuple #[.agg #[.int .i64 0, .int .i64 0, .int .i64 0, .int .i64 0, .int .i64 0], .bool false]) (by rw [results_cell_tmp rfl]; go_simp) rfl ?_
    exact ⟨by rw [← HR.out]; simp [fieldsR, gots, intsV, H0.out, H1.out, H2.out], by repeat' (first | (with_reducible exact Below.refl _ _) | (with_reducible refine below_drewN ?_ _) | (with_reducible refine Below.alloc ?_ ?_ _) | (with_reducible refine Below.setCell ?_ ?_ _) | go_size)⟩
  rw [hg2] at he; simp only [getR] at he; subst he; have H2 := Lib.hid hg2; clear hg2
  go_wp2_with fail
  rw [rounds_succ]
  go_wp2_with fail
  refine (HG.out (k2 : Nat) _).mono ?_
  rintro e u3 ⟨hu3, he⟩
  subst hu3
  rcases hg3 : got (bytesOf s) (k2 : Nat) with _ | ⟨n3, k3⟩
  · rw [hg3] at he; simp only [getR] at he; subst he; have H3 := Lib.hid hg3; clear hg3
    go_wp2_with fail
    (try simp only [Exit.inBlock, Exit.then]); refine bodyPost_ret (v := .tuple #[.agg #[.int .i64 0, .int .i64 0, .int .i64 0, .int .i64 0, .int .i64 0], .bool false]) (by rw [results_cell_tmp rfl]; go_simp) rfl ?_
    exact ⟨by rw [← HR.out]; simp [fieldsR, gots, intsV, H0.out, H1.out, H2.out, H3.out], by repeat' (first | (with_reducible exact Below.refl _ _) | (with_reducible refine below_drewN ?_ _) | (with_reducible refine Below.alloc ?_ ?_ _) | (with_reducible refine Below.setCell ?_ ?_ _) | go_size)⟩
  rw [hg3] at he; simp only [getR] at he; subst he; have H3 := Lib.hid hg3; clear hg3
  go_wp2_with fail
  rw [rounds_succ]
  go_wp2_with fail
  refine (HG.out (k3 : Nat) _).mono ?_
  rintro e u4 ⟨hu4, he⟩
  subst hu4
  rcases hg4 : got (bytesOf s) (k3 : Nat) with _ | ⟨n4, k4⟩
  · rw [hg4] at he; simp only [getR] at he; subst he; have H4 := Lib.hid hg4; clear hg4
    go_wp2_with fail
    (try simp only [Exit.inBlock, Exit.then]); refine bodyPost_ret (v := .tuple #[.agg #[.int .i64 0, .int .i64 0, .int .i64 0, .int .i64 0, .int .i64 0], .bool false]) (by rw [results_cell_tmp rfl]; go_simp) rfl ?_
    exact ⟨by rw [← HR.out]; simp [fieldsR, gots, intsV, H0.out, H1.out, H2.out, H3.out, H4.out], by repeat' (first | (with_reducible exact Below.refl _ _) | (with_reducible refine below_drewN ?_ _) | (with_reducible refine Below.alloc ?_ ?_ _) | (with_reducible refine Below.setCell ?_ ?_ _) | go_size)⟩
  rw [hg4] at he; simp only [getR] at he; subst he; have H4 := Lib.hid hg4; clear hg4
  go_wp2_with fail
  rw [rounds_succ]
  by_cases hk : k4 = s.size
  · subst hk
    go_wp2_with fail
    (try simp only [Exit.inBlock, Exit.then]); refine bodyPost_ret (v := .tuple #[.agg #[.int .i64 n0, .int .i64 n1, .int .i64 n2, .int .i64 n3, .int .i64 n4], .bool true]) (by rw [results_cell_tmp rfl]; go_simp) rfl ?_
    exact ⟨by rw [← HR.out]; simp [fieldsR, gots, intsV, HL.out, H0.out, H1.out, H2.out, H3.out, H4.out], by repeat' (first | (with_reducible exact Below.refl _ _) | (with_reducible refine below_drewN ?_ _) | (with_reducible refine Below.alloc ?_ ?_ _) | (with_reducible refine Below.setCell ?_ ?_ _) | go_size)⟩
  · have hk' : ¬ (k4 : Int) = s.size := by omega
    have t : decide ((k4 : Int) = (s.size : Int)) = false := decide_eq_false hk'
    go_wp2_with fail
    (try simp only [Exit.inBlock, Exit.then]); refine bodyPost_ret (v := .tuple #[.agg #[.int .i64 0, .int .i64 0, .int .i64 0, .int .i64 0, .int .i64 0], .bool false]) (by rw [results_cell_tmp rfl]; go_simp) rfl ?_
    exact ⟨by rw [← HR.out]; simp [fieldsR, gots, intsV, HL.out, hk', H0.out, H1.out, H2.out, H3.out, H4.out], by repeat' (first | (with_reducible exact Below.refl _ _) | (with_reducible refine below_drewN ?_ _) | (with_reducible refine Below.alloc ?_ ?_ _) | (with_reducible refine Below.setCell ?_ ?_ _) | go_size)⟩

theorem results_cell1 {fn : Func} {p : Tmp} {ty : TypeId} (h : fn.results = #[.cell p ty]) (tmps : Array Value) (P : Program) (w : World) :
    (results fn tmps).run P w = ((asAddr (tmps.getD p undef)).run P w).andThen fun a w₁ => (loadVar ty a).run P w₁ := by
  simp only [results, h]
  simp [Sem.run_bind, Result.andThen]
theorem results_cell_tmp2 {fn : Func} {p u v : Tmp} {ty : TypeId} (h : fn.results = #[.cell p ty, .tmp u, .tmp v]) (tmps : Array Value) (P : Program) (w : World) :
    (results fn tmps).run P w = ((asAddr (tmps.getD p undef)).run P w).andThen fun a w₁ => ((loadVar ty a).run P w₁).andThen fun x w₂ => .ok (.tuple #[x, tmps.getD u undef, tmps.getD v undef]) w₂ := by
  simp only [results, h]
  simp [Sem.run_bind, Result.andThen]
set_option maxRecDepth 100000 in
set_option maxHeartbeats 1000000 in
theorem orderOf_any (a b c d f : Int) (w : World) : Calls Tryd.prog 22 #[.agg #[.int .i64 a, .int .i64 b, .int .i64 c, .int .i64 d, .int .i64 f]] w (NumPost (.agg #[.int .i64 a, .int .i64 b, .int .i64 c, .int .i64 d, .int .i64 f]) w) := by
  go_enter Tryd.func22, Tryd.ntmps22
  go_wp2_with fail
  (try simp only [Exit.inBlock, Exit.then]); refine bodyPost_ret (v := .agg #[.int .i64 a, .int .i64 b, .int .i64 c, .int .i64 d, .int .i64 f]) (by rw [results_cell1 rfl]; go_simp) rfl ?_
  exact ⟨rfl, by repeat' (first | (with_reducible exact Below.refl _ _) | (with_reducible refine below_drewN ?_ _) | (with_reducible refine Below.alloc ?_ ?_ _) | (with_reducible refine Below.setCell ?_ ?_ _) | go_size)⟩
/-- A variable of five cells. -/
def Box5 (W : World) (g : Nat) (c0 c1 c2 c3 c4 : Value) : Prop := W.cell? ⟨g, 0, none⟩ = some c0 ∧ W.cell? ⟨g, 1, none⟩ = some c1 ∧ W.cell? ⟨g, 2, none⟩ = some c2 ∧ W.cell? ⟨g, 3, none⟩ = some c3 ∧ W.cell? ⟨g, 4, none⟩ = some c4 ∧
  (∀ i, W.frozen? ⟨g, i, none⟩ = false) ∧ g < W.heap.size
theorem Box5.new (W : World) (c0 c1 c2 c3 c4 : Value) (t : TypeId) : Box5 (W.alloc (.cells #[c0, c1, c2, c3, c4] t)) W.heap.size c0 c1 c2 c3 c4 :=
  ⟨by simp [go_sem], by simp [go_sem], by simp [go_sem], by simp [go_sem], by simp [go_sem], fun i => by
    have h := heap_alloc_new W (.cells #[c0, c1, c2, c3, c4] t)
    unfold World.frozen?; rw [h]; simp, by simp⟩
theorem Box5.keep {W W' : World} {g n : Nat} {c0 c1 c2 c3 c4 : Value} (h : Box5 W g c0 c1 c2 c3 c4) (hb : Below n W W') (hg : g < n) : Box5 W' g c0 c1 c2 c3 c4 := by
  obtain ⟨h0, h1, h2, h3, h4, hf, hs⟩ := h
  have := hb.size
  exact ⟨(hb.cell hg).trans h0, (hb.cell hg).trans h1, (hb.cell hg).trans h2, (hb.cell hg).trans h3, (hb.cell hg).trans h4, fun i => (hb.frozen hg).trans (hf i), by omega⟩
theorem Box5.later {W W' : World} {g : Nat} {c0 c1 c2 c3 c4 : Value} (h : Box5 W g c0 c1 c2 c3 c4) (hb : Below W.heap.size W W') : Box5 W' g c0 c1 c2 c3 c4 := h.keep hb h.2.2.2.2.2.2
theorem Box5.alloc {W : World} {g : Nat} {c0 c1 c2 c3 c4 : Value} (h : Box5 W g c0 c1 c2 c3 c4) (o : Obj) : Box5 (W.alloc o) g c0 c1 c2 c3 c4 := h.keep ((Below.refl _ _).alloc (Nat.le_refl _) o) h.2.2.2.2.2.2
theorem fields_cases (l : List UInt8) : (fieldsR l = .tuple #[.agg #[.int .i64 0, .int .i64 0, .int .i64 0, .int .i64 0, .int .i64 0], .bool false] ∧ decO l = none) ∨
    ∃ o : Od, fieldsR l = .tuple #[o.v, .bool true] ∧ decO l = if o.may then some o else none := by
  unfold fieldsR decO
  rcases hg : gots 5 l 0 with _ | ⟨ns, k⟩
  · exact .inl ⟨rfl, rfl⟩
  · have hl := gots_len _ _ _ _ _ hg
    match ns, hl with
    | [a, b, c, d, f], _ =>
      by_cases hk : k = l.length
      · refine .inr ⟨⟨a, b, c, d, f⟩, ?_, ?_⟩
        · simp only [hk, if_true]
          rfl
        · simp only [hk, true_and]
          rfl
      · exact .inl ⟨by simp only [hk, if_false]; rfl, by simp only [hk, false_and, if_false]⟩
set_option maxRecDepth 100000 in
set_option maxHeartbeats 4000000 in
theorem decode_any (s : ByteArray) (w : World) (hA : Asked w) (hs : s.size ≤ maxLen) : Calls Tryd.prog 14 #[.string s] w (NumPost (decR (bytesOf s)) w) := by
  have HG := Lib.hid (fun X => getFields_any s X hs)
  have HO := Lib.hid orderOf_any
  have HD : Hid (decR (bytesOf s) = match decO (bytesOf s) with | .none => .tuple #[Od.none.v, .int .i64 30] | some o => .tuple #[o.v, .int .i64 0]) := rfl
  generalize decR (bytesOf s) = R at *
  have hb0 : Below w.heap.size w w := Below.refl _ _
  have B0 := Box5.new w (.int .i64 0) (.int .i64 0) (.int .i64 0) (.int .i64 0) (.int .i64 0) 23
  have hbA : Below w.heap.size w (w.alloc (.cells #[.int .i64 0, .int .i64 0, .int .i64 0, .int .i64 0, .int .i64 0] 23)) := hb0.alloc (Nat.le_refl _) _
  have hA0 := hA.keep hbA
  rcases fields_cases (bytesOf s) with ⟨h1, h2⟩ | ⟨o, h1, h2⟩
  · rw [h1] at HG
    rw [h2] at HD
    have HD' := Lib.hid (HD.out.trans rfl)
    clear h1 h2 HD
    go_enter Tryd.func14, Tryd.ntmps14
    go_wp2_with fail
    refine (HG.out _).mono ?_
    rintro e w1 ⟨rfl, hb1⟩
    have hsz := hb1.size
    obtain ⟨x0, x1, x2, x3, x4, xf, xs⟩ := B0.later hb1
    have hbz := hbA.trans (hb1.mono hbA.size)
    clear hb1 hbA
    go_wp2_with fail
    (try simp only [Exit.inBlock, Exit.then]); refine bodyPost_ret (v := .tuple #[.agg #[.int .i64 0, .int .i64 0, .int .i64 0, .int .i64 0, .int .i64 0], .int .i64 30]) (by rw [results_cell_tmp rfl]; go_simp) rfl ?_
    exact ⟨HD'.out.symm ▸ rfl, by repeat' (first | (with_reducible exact hbz) | (with_reducible refine below_drewN ?_ _) | (with_reducible refine Below.alloc ?_ ?_ _) | (with_reducible refine Below.setCell ?_ ?_ _) | go_size)⟩
  · rw [h1] at HG
    rw [h2] at HD
    have HC := Lib.hid (fun X hX => check_any o X hX)
    have HE := Lib.hid (show o.err = if o.may then 0 else 2 from rfl)
    clear h1 h2
    generalize o.err = ee at *
    generalize o.may = my at *
    obtain ⟨a, b, c, d, f⟩ := o
    simp only [Od.v] at *
    cases my
    · obtain rfl : ee = 2 := HE.out
      have HD' := Lib.hid (HD.out.trans rfl)
      clear HD HE
      go_enter Tryd.func14, Tryd.ntmps14
      go_wp2_with fail
      refine (HG.out _).mono ?_
      rintro e w1 ⟨rfl, hb1⟩
      have B1 := B0.later hb1
      have hbz := hbA.trans (hb1.mono hbA.size)
      have hAz := hA.keep hbz
      clear hb1
      obtain ⟨x0, x1, x2, x3, x4, xf, xs⟩ := id B1
      go_wp2_with fail
      refine (HO.out _ _ _ _ _ _).mono ?_
      rintro e w2 ⟨rfl, hb2⟩
      clear x0 x1 x2 x3 x4 xf xs
      have C2 := (B1.alloc (.cells #[.int .i64 a, .int .i64 b, .int .i64 c, .int .i64 d, .int .i64 f] 41)).later hb2
      have hby := hbz.trans (((Below.refl _ _).alloc (Nat.le_refl _) (.cells #[.int .i64 a, .int .i64 b, .int .i64 c, .int .i64 d, .int .i64 f] 41)).trans (hb2.mono (by simp)) |>.mono hbz.size)
      obtain ⟨x0, x1, x2, x3, x4, xf, xs⟩ := id C2
      clear hb2 hbz hAz
      have hAy := hA.keep (hby.alloc hby.size (.cells #[.int .i64 a, .int .i64 b, .int .i64 c, .int .i64 d, .int .i64 f] 23))
      have D2 := Box5.new w2 (.int .i64 a) (.int .i64 b) (.int .i64 c) (.int .i64 d) (.int .i64 f) 23
      go_wp2_with fail
      refine (HC.out _ hAy).mono ?_
      rintro e w3 ⟨rfl, hb3⟩
      clear x0 x1 x2 x3 x4 xf xs
      obtain ⟨x0, x1, x2, x3, x4, xf, xs⟩ := (C2.alloc (.cells #[.int .i64 a, .int .i64 b, .int .i64 c, .int .i64 d, .int .i64 f] 23)).later hb3
      obtain ⟨y0, y1, y2, y3, y4, yf, ys⟩ := D2.later hb3
      have hbz := (hby.alloc hby.size (.cells #[.int .i64 a, .int .i64 b, .int .i64 c, .int .i64 d, .int .i64 f] 23)).trans (hb3.mono (hby.alloc hby.size (.cells #[.int .i64 a, .int .i64 b, .int .i64 c, .int .i64 d, .int .i64 f] 23)).size)
      clear hb3 hby
      go_wp2_with fail
      (try simp only [Exit.inBlock, Exit.then]); refine bodyPost_ret (v := .tuple #[.agg #[.int .i64 0, .int .i64 0, .int .i64 0, .int .i64 0, .int .i64 0], .int .i64 30]) (by rw [results_cell_tmp rfl]; go_simp) rfl ?_
      exact ⟨HD'.out.symm ▸ rfl, by repeat' (first | (with_reducible exact hbz) | (with_reducible refine below_drewN ?_ _) | (with_reducible refine Below.alloc ?_ ?_ _) | (with_reducible refine Below.setCell ?_ ?_ _) | go_size)⟩
    · obtain rfl : ee = 0 := HE.out
      have HD' := Lib.hid (HD.out.trans rfl)
      clear HD HE
      go_enter Tryd.func14, Tryd.ntmps14
      go_wp2_with fail
      refine (HG.out _).mono ?_
      rintro e w1 ⟨rfl, hb1⟩
      have B1 := B0.later hb1
      have hbz := hbA.trans (hb1.mono hbA.size)
      have hAz := hA.keep hbz
      clear hb1
      obtain ⟨x0, x1, x2, x3, x4, xf, xs⟩ := id B1
      go_wp2_with fail
      refine (HO.out _ _ _ _ _ _).mono ?_
      rintro e w2 ⟨rfl, hb2⟩
      clear x0 x1 x2 x3 x4 xf xs
      have C2 := (B1.alloc (.cells #[.int .i64 a, .int .i64 b, .int .i64 c, .int .i64 d, .int .i64 f] 41)).later hb2
      have hby := hbz.trans (((Below.refl _ _).alloc (Nat.le_refl _) (.cells #[.int .i64 a, .int .i64 b, .int .i64 c, .int .i64 d, .int .i64 f] 41)).trans (hb2.mono (by simp)) |>.mono hbz.size)
      obtain ⟨x0, x1, x2, x3, x4, xf, xs⟩ := id C2
      clear hb2 hbz hAz
      have hAy := hA.keep (hby.alloc hby.size (.cells #[.int .i64 a, .int .i64 b, .int .i64 c, .int .i64 d, .int .i64 f] 23))
      have D2 := Box5.new w2 (.int .i64 a) (.int .i64 b) (.int .i64 c) (.int .i64 d) (.int .i64 f) 23
      go_wp2_with fail
      refine (HC.out _ hAy).mono ?_
      rintro e w3 ⟨rfl, hb3⟩
      clear x0 x1 x2 x3 x4 xf xs
      obtain ⟨x0, x1, x2, x3, x4, xf, xs⟩ := (C2.alloc (.cells #[.int .i64 a, .int .i64 b, .int .i64 c, .int .i64 d, .int .i64 f] 23)).later hb3
      obtain ⟨y0, y1, y2, y3, y4, yf, ys⟩ := D2.later hb3
      have hbz := (hby.alloc hby.size (.cells #[.int .i64 a, .int .i64 b, .int .i64 c, .int .i64 d, .int .i64 f] 23)).trans (hb3.mono (hby.alloc hby.size (.cells #[.int .i64 a, .int .i64 b, .int .i64 c, .int .i64 d, .int .i64 f] 23)).size)
      clear hb3 hby
      go_wp2_with fail
      (try simp only [Exit.inBlock, Exit.then]); refine bodyPost_ret (v := .tuple #[.agg #[.int .i64 a, .int .i64 b, .int .i64 c, .int .i64 d, .int .i64 f], .int .i64 0]) (by rw [results_cell_tmp rfl]; go_simp) rfl ?_
      exact ⟨HD'.out.symm ▸ rfl, by repeat' (first | (with_reducible exact hbz) | (with_reducible refine below_drewN ?_ _) | (with_reducible refine Below.alloc ?_ ?_ _) | (with_reducible refine Below.setCell ?_ ?_ _) | go_size)⟩
end Go.Proofs.YtncbjekmkihilaaDoor
