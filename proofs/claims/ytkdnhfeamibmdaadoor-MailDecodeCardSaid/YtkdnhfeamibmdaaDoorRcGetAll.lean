/-
  getAll of package records, at entries and at spots.
-/
import Derived.Test.YtkdnhfeamibmdaaDoorRcOne
import Derived.Laws.AppendOwn
import Derived.OwnWalk
namespace Go.Proofs.YtkdnhfeamibmdaaDoor
open Go.RowKit
section
variable {P : Program}
/-- An 'append' whose run is known, in the walk. -/
theorem wpList_append_run (w : World) {ops : Array Oper} {rest : List Oper} {o : Oper} {a : Act} {Q : Exit → Act → World → Prop} (hgd : o.guard = none) (d s : Operand) (t t' : TypeId)
    (ho : o.op = .call { callee := .builtin .append, args := #[d, s], argTypes := #[t, t'] }) (v u : Value) (hd : a.eval d = v) (hs : a.eval s = u) {v' : Value} {w' : World}
    (hr : (Builtin.append_ #[t, t'] o.type #[v, u]).run P w = .ok v' w') (h : wpList P ops Q rest (a.put o.dst v') w') : wpList P ops Q (o :: rest) a w :=
  wpList_plain hgd fun K hK => by
    unfold Oper.wp
    simp [execOp, ho, resolve, invoke, builtin, hd, hs, hr, Result.andThen]
    exact hK _ _ h
end
theorem many_snoc (l : List UInt8) (per : Nat) : ∀ (k a : Nat), many l per (k + 1) a = ((many l per k a).1 ++ [(nx l per (many l per k a).2.1).1], (nx l per (many l per k a).2.1).2.1, (many l per k a).2.2 || (nx l per (many l per k a).2.1).2.2)
  | 0, a => by simp [many]
  | k + 1, a => by
    have ih := many_snoc l per k (nx l per a).2.1
    rw [many, ih]
    simp only [many, List.cons_append, Bool.or_assoc]
/-- What getAll leaves: a row of its own, and how far the reader is. -/
def ListPost (T : TypeId) (per : Nat) (s : ByteArray) (m a most : Nat) (f : Bool) (w : World) (e : Ending) (w' : World) : Prop :=
  ∃ v, e = .returned v ∧ w'.ownsRow w.heap.size T per v (lst (bytesOf s) per most a).1.length ((lst (bytesOf s) per most a).1.flatten.map (Value.int .i64)) ∧ RdAt w' m s (lst (bytesOf s) per most a).2.1 (f || (lst (bytesOf s) per most a).2.2) ∧ Foot (fun j => j = m) w w'
theorem Tryd.info_en : (Tryd.prog.info? 30).map (fun i => (i.zero, i.size, i.bytes)) = some (some (.agg #[.int .i64 0, .int .i64 0, .int .i64 0, .int .i64 0, .int .i64 0, .int .i64 0]), 6, 48) := by kernel_rfl
theorem app_entry {w : World} {base n : Nat} {v : Value} {xs : List Value} (x0 x1 x2 x3 x4 x5 : Int) (ho : w.ownsRow base 30 6 v n xs) (hb : base ≤ w.heap.size) (hn : n ≤ 10000) :
    ∃ A c w', (Builtin.append_ #[22, 22] 22 #[v, .slice (some ⟨w.heap.size, 0, none⟩) 1 1]).run Tryd.prog (w.alloc (.cells #[.int .i64 x0, .int .i64 x1, .int .i64 x2, .int .i64 x3, .int .i64 x4, .int .i64 x5] 30)) = .ok (.slice A (n + 1) c) w' ∧ w'.ownsRow base 30 6 (.slice A (n + 1) c) (n + 1) (xs ++ [.int .i64 x0, .int .i64 x1, .int .i64 x2, .int .i64 x3, .int .i64 x4, .int .i64 x5]) ∧ (w.alloc (.cells #[.int .i64 x0, .int .i64 x1, .int .i64 x2, .int .i64 x3, .int .i64 x4, .int .i64 x5] 30)).grownBy w' v.ownBlock := by
  obtain ⟨i0, hi0, hz0, hz1, hz2⟩ := info_parts Tryd.info_en
  have hB : (w.alloc (.cells #[.int .i64 x0, .int .i64 x1, .int .i64 x2, .int .i64 x3, .int .i64 x4, .int .i64 x5] 30)).heap[w.heap.size]? = some (.cells #[.int .i64 x0, .int .i64 x1, .int .i64 x2, .int .i64 x3, .int .i64 x4, .int .i64 x5] 30 (0, 0)) := heap_alloc_new _ _
  obtain ⟨v', w', hr, ho', hg, _⟩ := run_append_own (P := Tryd.prog) (w.alloc (.cells #[.int .i64 x0, .int .i64 x1, .int .i64 x2, .int .i64 x3, .int .i64 x4, .int .i64 x5] 30)) base 22 22 30 i0 _ 6 48 Tryd.underlying22 hi0 hz0 hz1 hz2 rfl (by decide) v n xs (World.ownsRow.alloc ho _) ⟨w.heap.size, 0, none⟩ 1 1 [.int .i64 x0, .int .i64 x1, .int .i64 x2, .int .i64 x3, .int .i64 x4, .int .i64 x5] rfl
    (fun j u hu => by
      rw [Addr.add_lit, Nat.zero_add, Lib.cell_of_heap hB]
      simpa using hu)
    (by intro u hu; simp only [List.mem_cons, List.not_mem_nil, or_false] at hu; rcases hu with rfl | rfl | rfl | rfl | rfl | rfl <;> rfl) (by unfold maxLen; omega) (by omega) (by simp; omega)
  rcases ho'.2 with ⟨rfl, h0⟩ | ⟨g, cap, cur, rfl, _⟩
  · omega
  · exact ⟨_, cap, w', hr, ho', hg⟩
set_option maxRecDepth 100000 in
set_option maxHeartbeats 4000000 in
theorem getAll_es {s : ByteArray} (hs : s.size ≤ 1000000) {m a p most : Nat} {f : Bool} {w : World} (h : RdAt w m s a f) (ha : a ≤ s.size) (hp : PtrVar w p m) (hpm : p ≠ m) (hmost : most ≤ 1000) :
    Calls Tryd.prog 63 #[.pointer (some ⟨m, 0, none⟩), .int .i64 most, .func (.func 64) #[] #[.pointer (some ⟨p, 0, none⟩)]] w (ListPost 30 6 s m a most f w) := by
  have hmlt := h.lt
  have G := Lib.hid (next_any hs h (show 1 ≤ 6 by omega) ha)
  have hL := nx_len (bytesOf s) 1 a
  have hbd : (nx (bytesOf s) 1 a).2.1 ≤ (bytesOf s).length := nx_bd (by rw [bytes_len]; exact ha)
  have HL0 : Hid (lst (bytesOf s) 6 most a = if (nx (bytesOf s) 1 a).1.getD 0 0 < 0 ∨ (most : Int) < (nx (bytesOf s) 1 a).1.getD 0 0 then ([], (nx (bytesOf s) 1 a).2.1, true)
    else ((many (bytesOf s) 6 ((nx (bytesOf s) 1 a).1.getD 0 0).toNat (nx (bytesOf s) 1 a).2.1).1, (many (bytesOf s) 6 ((nx (bytesOf s) 1 a).1.getD 0 0).toNat (nx (bytesOf s) 1 a).2.1).2.1, (nx (bytesOf s) 1 a).2.2 || (many (bytesOf s) 6 ((nx (bytesOf s) 1 a).1.getD 0 0).toNat (nx (bytesOf s) 1 a).2.1).2.2)) := rfl
  have HP := Lib.hid hp
  have HPM := Lib.hid hpm
  obtain ⟨N, HN⟩ : ∃ N, Hid (nx (bytesOf s) 1 a = N) := ⟨_, Lib.hid rfl⟩
  rw [HN.out] at hL hbd HL0
  have HA := Lib.hid ha
  clear h hp ha hpm
  obtain ⟨row, a1, bad1⟩ := N
  dsimp only at hL hbd HL0
  obtain ⟨n, rfl⟩ : ∃ n, row = [n] := by
    match row, hL with
    | [n], _ => exact ⟨n, rfl⟩
  simp only [List.getD_cons_zero] at HL0
  clear hL
  go_enter Tryd.func63, Tryd.ntmps63
  go_wp2_with fail
  refine (G.out).mono ?_
  rintro e w1 ⟨g, rfl, hg, hrow, hrd, hft⟩
  rw [HN.out] at hrow hrd
  dsimp only at hrow hrd
  have r0 : w1.cell? ⟨g, 0, none⟩ = some (.int .i64 n) := by rw [Lib.cell_of_heap hrow]; rfl
  obtain ⟨-, -, c2, -, f2⟩ := hrd.cells
  have hml1 := hrd.lt
  have HRD := Lib.hid hrd
  have HFT := Lib.hid hft
  clear hrow hrd hft G
  by_cases hlo : n < 0
  · have t : decide (n < 0) = true := decide_eq_true hlo
    have HL : Hid (lst (bytesOf s) 6 most a = ([], a1, true)) := by show _ = _; rw [HL0.out, if_pos (.inl hlo)]
    clear HL0
    go_wp2_with fail
    go_ret
    exact ⟨_, rfl, by rw [HL.out]; exact World.ownsRow_nil _ _ _ _, by rw [HL.out, Bool.or_true]; exact RdAt.set2 HRD.out, HFT.out.trans (Foot.set (fun j => j = m) _ _ _ rfl) (fun _ _ h => h)⟩
  have t1 : decide (n < 0) = false := decide_eq_false hlo
  by_cases hhi : (most : Int) < n
  · have t : decide ((most : Int) < n) = true := decide_eq_true hhi
    have HL : Hid (lst (bytesOf s) 6 most a = ([], a1, true)) := by show _ = _; rw [HL0.out, if_pos (.inr hhi)]
    clear HL0
    go_wp2_with fail
    go_ret
    exact ⟨_, rfl, by rw [HL.out]; exact World.ownsRow_nil _ _ _ _, by rw [HL.out, Bool.or_true]; exact RdAt.set2 HRD.out, HFT.out.trans (Foot.set (fun j => j = m) _ _ _ rfl) (fun _ _ h => h)⟩
  have t2 : decide ((most : Int) < n) = false := decide_eq_false hhi
  obtain ⟨c, rfl⟩ : ∃ c : Nat, n = c := ⟨n.toNat, by omega⟩
  have HL : Hid (lst (bytesOf s) 6 most a = ((many (bytesOf s) 6 c a1).1, (many (bytesOf s) 6 c a1).2.1, bad1 || (many (bytesOf s) 6 c a1).2.2)) := by show _ = _; rw [HL0.out, if_neg (by omega), Int.toNat_natCast]
  have HMB := Lib.hid (fun k => (many_bd hbd : (many (bytesOf s) 6 k a1).2.1 ≤ _))
  rw [bytes_len] at HMB
  have hcm : c ≤ 1000 := by omega
  clear HL0 hbd
  go_wp2_with fail
  clear t1 t2 r0 c2 f2 hlo hhi
  go_loopw [24, 8] (fun i l wr => ∃ k : Nat, k ≤ c ∧ i = .int .i64 k ∧ wr.ownsRow w.heap.size 30 6 l k ((many (bytesOf s) 6 k a1).1.flatten.map (Value.int .i64)) ∧ RdAt wr m s (many (bytesOf s) 6 k a1).2.1 (f || (bad1 || (many (bytesOf s) 6 k a1).2.2)) ∧ Foot (fun j => j = m) w wr) (fun i _ _ => c - (intOf i).toNat)
  case atStart => exact ⟨0, Nat.zero_le _, rfl, World.ownsRow_nil _ _ _ _, by simpa [many] using HRD.out, HFT.out⟩
  case round =>
    obtain ⟨k, hk, rfl, hown, hrd, hft⟩ := hrel
    obtain ⟨v, hv⟩ : ∃ v, v = u8 := ⟨_, rfl⟩
    subst hv
    by_cases hlt : k < c
    · have hii : (k : Int) < (c : Int) := by omega
      have HS := Lib.hid (many_snoc (bytesOf s) 6 k a1)
      have HM2 := Lib.hid (HMB.out k)
      have GO := Lib.hid (one_entry hs hrd (HMB.out k) (HP.out.foot hft HPM.out))
      have HLR := Lib.hid (nx_len (bytesOf s) 6 (many (bytesOf s) 6 k a1).2.1)
      have HOWN := Lib.hid hown
      have HFT := Lib.hid hft
      have hszr := hft.size
      clear hown hrd hft
      go_wp2_with fail
      refine (GO.out).mono ?_
      rintro e w2 ⟨rfl, hrd2, hft2⟩
      generalize hN2 : nx (bytesOf s) 6 (many (bytesOf s) 6 k a1).2.1 = N2 at *
      have HN2 := Lib.hid hN2
      clear hN2
      obtain ⟨row2, b2, bad2⟩ := N2
      have HLR2 : Hid (row2.length = 6) := HLR.out
      have HXL := Lib.hid (l_enOf HLR2.out)
      dsimp only at hrd2
      generalize enOf row2 = x at *
      have HX2 : Hid (row2.map (Value.int .i64) = x.l.map (Value.int .i64)) := by show _ = _; rw [HXL.out]
      obtain ⟨x0, ⟨x1, x2, x3, x4, x5⟩⟩ := x
      unfold EnV
      dsimp only
      have hsz2 := hft2.size
      have hown2 : w2.ownsRow w.heap.size 30 6 v k ((many (bytesOf s) 6 k a1).1.flatten.map (Value.int .i64)) := owns_foot HOWN.out hft2 (fun j hj e => by have := (World.ownsRow.lt HOWN.out j hj).1; omega)
      obtain ⟨A3, c3, w3, hr3, ho3, hg3⟩ := app_entry x0 x1 x2 x3 x4 x5 hown2 (by omega) (by omega)
      have HAP := Lib.hid hr3
      have HB3 : Hid (Below w.heap.size w2 w3) := (((Below.refl _ _).alloc (by omega) _).grown hg3 (by simp; omega) (fun j hj => (World.ownsRow.lt hown2 j hj).1))
      have HO3 := Lib.hid ho3
      have HRD3 := Lib.hid (RdAt.bel hrd2 HB3.out hmlt)
      have HFT3 := Lib.hid (foot_below (HFT.out.trans hft2 (fun _ _ h => h)) HB3.out)
      clear hown2 hr3 ho3 hg3 hrd2 hft2
      go_wp2_with (at_builtin; refine wpList_append_run _ rfl _ _ _ _ rfl _ _ rfl rfl HAP.out ?_)
      go_roundw
      case rel =>
        refine ⟨k + 1, by omega, by go_num, ?_, ?_, HFT3.out⟩
        · rw [HS.out, ← List.map_flatten]
          dsimp only
          simp only [List.flatten_append, List.map_append, List.flatten_cons, List.flatten_nil, List.append_nil]
          rw [HX2.out]
          exact HO3.out
        · rw [HS.out]
          simpa [Bool.or_assoc] using HRD3.out
      case measure => simp [intOf]; omega
    · obtain rfl : k = c := by omega
      have HOWN := Lib.hid hown
      have HRD2 := Lib.hid hrd
      have HML := Lib.hid (many_len (l := bytesOf s) (per := 6) k a1)
      clear hown hrd
      go_wp2_with fail
      go_ret
      exact ⟨_, rfl, by rw [HL.out]; dsimp only; rw [HML.out]; exact HOWN.out, by rw [HL.out]; exact HRD2.out, hft⟩
theorem Tryd.info_sp : (Tryd.prog.info? 32).map (fun i => (i.zero, i.size, i.bytes)) = some (some (.agg #[.int .i64 0, .int .i64 0]), 2, 16) := by kernel_rfl
theorem app_spot {w : World} {base n : Nat} {v : Value} {xs : List Value} (x0 x1 : Int) (ho : w.ownsRow base 32 2 v n xs) (hb : base ≤ w.heap.size) (hn : n ≤ 10000) :
    ∃ A c w', (Builtin.append_ #[23, 23] 23 #[v, .slice (some ⟨w.heap.size, 0, none⟩) 1 1]).run Tryd.prog (w.alloc (.cells #[.int .i64 x0, .int .i64 x1] 32)) = .ok (.slice A (n + 1) c) w' ∧ w'.ownsRow base 32 2 (.slice A (n + 1) c) (n + 1) (xs ++ [.int .i64 x0, .int .i64 x1]) ∧ (w.alloc (.cells #[.int .i64 x0, .int .i64 x1] 32)).grownBy w' v.ownBlock := by
  obtain ⟨i0, hi0, hz0, hz1, hz2⟩ := info_parts Tryd.info_sp
  have hB : (w.alloc (.cells #[.int .i64 x0, .int .i64 x1] 32)).heap[w.heap.size]? = some (.cells #[.int .i64 x0, .int .i64 x1] 32 (0, 0)) := heap_alloc_new _ _
  obtain ⟨v', w', hr, ho', hg, _⟩ := run_append_own (P := Tryd.prog) (w.alloc (.cells #[.int .i64 x0, .int .i64 x1] 32)) base 23 23 32 i0 _ 2 16 Tryd.underlying23 hi0 hz0 hz1 hz2 rfl (by decide) v n xs (World.ownsRow.alloc ho _) ⟨w.heap.size, 0, none⟩ 1 1 [.int .i64 x0, .int .i64 x1] rfl
    (fun j u hu => by
      rw [Addr.add_lit, Nat.zero_add, Lib.cell_of_heap hB]
      simpa using hu)
    (by intro u hu; simp only [List.mem_cons, List.not_mem_nil, or_false] at hu; rcases hu with rfl | rfl <;> rfl) (by unfold maxLen; omega) (by omega) (by simp; omega)
  rcases ho'.2 with ⟨rfl, h0⟩ | ⟨g, cap, cur, rfl, _⟩
  · omega
  · exact ⟨_, cap, w', hr, ho', hg⟩
set_option maxRecDepth 100000 in
set_option maxHeartbeats 4000000 in
theorem getAll_fd {s : ByteArray} (hs : s.size ≤ 1000000) {m a p most : Nat} {f : Bool} {w : World} (h : RdAt w m s a f) (ha : a ≤ s.size) (hp : PtrVar w p m) (hpm : p ≠ m) (hmost : most ≤ 1000) :
    Calls Tryd.prog 65 #[.pointer (some ⟨m, 0, none⟩), .int .i64 most, .func (.func 66) #[] #[.pointer (some ⟨p, 0, none⟩)]] w (ListPost 32 2 s m a most f w) := by
  have hmlt := h.lt
  have G := Lib.hid (next_any hs h (show 1 ≤ 6 by omega) ha)
  have hL := nx_len (bytesOf s) 1 a
  have hbd : (nx (bytesOf s) 1 a).2.1 ≤ (bytesOf s).length := nx_bd (by rw [bytes_len]; exact ha)
  have HL0 : Hid (lst (bytesOf s) 2 most a = if (nx (bytesOf s) 1 a).1.getD 0 0 < 0 ∨ (most : Int) < (nx (bytesOf s) 1 a).1.getD 0 0 then ([], (nx (bytesOf s) 1 a).2.1, true)
    else ((many (bytesOf s) 2 ((nx (bytesOf s) 1 a).1.getD 0 0).toNat (nx (bytesOf s) 1 a).2.1).1, (many (bytesOf s) 2 ((nx (bytesOf s) 1 a).1.getD 0 0).toNat (nx (bytesOf s) 1 a).2.1).2.1, (nx (bytesOf s) 1 a).2.2 || (many (bytesOf s) 2 ((nx (bytesOf s) 1 a).1.getD 0 0).toNat (nx (bytesOf s) 1 a).2.1).2.2)) := rfl
  have HP := Lib.hid hp
  have HPM := Lib.hid hpm
  obtain ⟨N, HN⟩ : ∃ N, Hid (nx (bytesOf s) 1 a = N) := ⟨_, Lib.hid rfl⟩
  rw [HN.out] at hL hbd HL0
  have HA := Lib.hid ha
  clear h hp ha hpm
  obtain ⟨row, a1, bad1⟩ := N
  dsimp only at hL hbd HL0
  obtain ⟨n, rfl⟩ : ∃ n, row = [n] := by
    match row, hL with
    | [n], _ => exact ⟨n, rfl⟩
  simp only [List.getD_cons_zero] at HL0
  clear hL
  go_enter Tryd.func65, Tryd.ntmps65
  go_wp2_with fail
  refine (G.out).mono ?_
  rintro e w1 ⟨g, rfl, hg, hrow, hrd, hft⟩
  rw [HN.out] at hrow hrd
  dsimp only at hrow hrd
  have r0 : w1.cell? ⟨g, 0, none⟩ = some (.int .i64 n) := by rw [Lib.cell_of_heap hrow]; rfl
  obtain ⟨-, -, c2, -, f2⟩ := hrd.cells
  have hml1 := hrd.lt
  have HRD := Lib.hid hrd
  have HFT := Lib.hid hft
  clear hrow hrd hft G
  by_cases hlo : n < 0
  · have t : decide (n < 0) = true := decide_eq_true hlo
    have HL : Hid (lst (bytesOf s) 2 most a = ([], a1, true)) := by show _ = _; rw [HL0.out, if_pos (.inl hlo)]
    clear HL0
    go_wp2_with fail
    go_ret
    exact ⟨_, rfl, by rw [HL.out]; exact World.ownsRow_nil _ _ _ _, by rw [HL.out, Bool.or_true]; exact RdAt.set2 HRD.out, HFT.out.trans (Foot.set (fun j => j = m) _ _ _ rfl) (fun _ _ h => h)⟩
  have t1 : decide (n < 0) = false := decide_eq_false hlo
  by_cases hhi : (most : Int) < n
  · have t : decide ((most : Int) < n) = true := decide_eq_true hhi
    have HL : Hid (lst (bytesOf s) 2 most a = ([], a1, true)) := by show _ = _; rw [HL0.out, if_pos (.inr hhi)]
    clear HL0
    go_wp2_with fail
    go_ret
    exact ⟨_, rfl, by rw [HL.out]; exact World.ownsRow_nil _ _ _ _, by rw [HL.out, Bool.or_true]; exact RdAt.set2 HRD.out, HFT.out.trans (Foot.set (fun j => j = m) _ _ _ rfl) (fun _ _ h => h)⟩
  have t2 : decide ((most : Int) < n) = false := decide_eq_false hhi
  obtain ⟨c, rfl⟩ : ∃ c : Nat, n = c := ⟨n.toNat, by omega⟩
  have HL : Hid (lst (bytesOf s) 2 most a = ((many (bytesOf s) 2 c a1).1, (many (bytesOf s) 2 c a1).2.1, bad1 || (many (bytesOf s) 2 c a1).2.2)) := by show _ = _; rw [HL0.out, if_neg (by omega), Int.toNat_natCast]
  have HMB := Lib.hid (fun k => (many_bd hbd : (many (bytesOf s) 2 k a1).2.1 ≤ _))
  rw [bytes_len] at HMB
  have hcm : c ≤ 1000 := by omega
  clear HL0 hbd
  go_wp2_with fail
  clear t1 t2 r0 c2 f2 hlo hhi
  go_loopw [24, 8] (fun i l wr => ∃ k : Nat, k ≤ c ∧ i = .int .i64 k ∧ wr.ownsRow w.heap.size 32 2 l k ((many (bytesOf s) 2 k a1).1.flatten.map (Value.int .i64)) ∧ RdAt wr m s (many (bytesOf s) 2 k a1).2.1 (f || (bad1 || (many (bytesOf s) 2 k a1).2.2)) ∧ Foot (fun j => j = m) w wr) (fun i _ _ => c - (intOf i).toNat)
  case atStart => exact ⟨0, Nat.zero_le _, rfl, World.ownsRow_nil _ _ _ _, by simpa [many] using HRD.out, HFT.out⟩
  case round =>
    obtain ⟨k, hk, rfl, hown, hrd, hft⟩ := hrel
    obtain ⟨v, hv⟩ : ∃ v, v = u8 := ⟨_, rfl⟩
    subst hv
    by_cases hlt : k < c
    · have hii : (k : Int) < (c : Int) := by omega
      have HS := Lib.hid (many_snoc (bytesOf s) 2 k a1)
      have HM2 := Lib.hid (HMB.out k)
      have GO := Lib.hid (one_spot hs hrd (HMB.out k) (HP.out.foot hft HPM.out))
      have HLR := Lib.hid (nx_len (bytesOf s) 2 (many (bytesOf s) 2 k a1).2.1)
      have HOWN := Lib.hid hown
      have HFT := Lib.hid hft
      have hszr := hft.size
      clear hown hrd hft
      go_wp2_with fail
      refine (GO.out).mono ?_
      rintro e w2 ⟨rfl, hrd2, hft2⟩
      generalize hN2 : nx (bytesOf s) 2 (many (bytesOf s) 2 k a1).2.1 = N2 at *
      have HN2 := Lib.hid hN2
      clear hN2
      obtain ⟨row2, b2, bad2⟩ := N2
      have HLR2 : Hid (row2.length = 2) := HLR.out
      have HXL := Lib.hid (l_spOf HLR2.out)
      dsimp only at hrd2
      generalize spOf row2 = x at *
      have HX2 : Hid (row2.map (Value.int .i64) = x.l.map (Value.int .i64)) := by show _ = _; rw [HXL.out]
      obtain ⟨x0, x1⟩ := x
      unfold SpV
      dsimp only
      have hsz2 := hft2.size
      have hown2 : w2.ownsRow w.heap.size 32 2 v k ((many (bytesOf s) 2 k a1).1.flatten.map (Value.int .i64)) := owns_foot HOWN.out hft2 (fun j hj e => by have := (World.ownsRow.lt HOWN.out j hj).1; omega)
      obtain ⟨A3, c3, w3, hr3, ho3, hg3⟩ := app_spot x0 x1 hown2 (by omega) (by omega)
      have HAP := Lib.hid hr3
      have HB3 : Hid (Below w.heap.size w2 w3) := (((Below.refl _ _).alloc (by omega) _).grown hg3 (by simp; omega) (fun j hj => (World.ownsRow.lt hown2 j hj).1))
      have HO3 := Lib.hid ho3
      have HRD3 := Lib.hid (RdAt.bel hrd2 HB3.out hmlt)
      have HFT3 := Lib.hid (foot_below (HFT.out.trans hft2 (fun _ _ h => h)) HB3.out)
      clear hown2 hr3 ho3 hg3 hrd2 hft2
      go_wp2_with (at_builtin; refine wpList_append_run _ rfl _ _ _ _ rfl _ _ rfl rfl HAP.out ?_)
      go_roundw
      case rel =>
        refine ⟨k + 1, by omega, by go_num, ?_, ?_, HFT3.out⟩
        · rw [HS.out, ← List.map_flatten]
          dsimp only
          simp only [List.flatten_append, List.map_append, List.flatten_cons, List.flatten_nil, List.append_nil]
          rw [HX2.out]
          exact HO3.out
        · rw [HS.out]
          simpa [Bool.or_assoc] using HRD3.out
      case measure => simp [intOf]; omega
    · obtain rfl : k = c := by omega
      have HOWN := Lib.hid hown
      have HRD2 := Lib.hid hrd
      have HML := Lib.hid (many_len (l := bytesOf s) (per := 2) k a1)
      clear hown hrd
      go_wp2_with fail
      go_ret
      exact ⟨_, rfl, by rw [HL.out]; dsimp only; rw [HML.out]; exact HOWN.out, by rw [HL.out]; exact HRD2.out, hft⟩
end Go.Proofs.YtkdnhfeamibmdaaDoor
