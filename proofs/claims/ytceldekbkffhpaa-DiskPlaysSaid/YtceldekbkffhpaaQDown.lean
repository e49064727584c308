/-
  The contracts of Crash, fails and change of the document's disk.
-/
import Derived.Test.YtceldekbkffhpaaQFind
import Derived.Lib.MinMax
import Derived.Deep.LoopGhost
namespace Go.Proofs.Ytceldekbkffhpaa
open Go.RowKit
/-- The first few are done. -/
def upQ (keep : List Int) (k : Nat) (fs : List Dsk.Fl) : List Dsk.Fl := fs.mapIdx fun i f => if i < k then Dsk.crashF keep i f else f
theorem upQ_len (keep : List Int) (k : Nat) (fs : List Dsk.Fl) : (upQ keep k fs).length = fs.length := by simp [upQ]
theorem upQ_at (keep : List Int) (k : Nat) (fs : List Dsk.Fl) {i : Nat} (hi : i < fs.length) : (upQ keep k fs)[i]'(by rw [upQ_len]; exact hi) = if i < k then Dsk.crashF keep i fs[i] else fs[i] := by simp [upQ]
theorem upQ_zero (keep : List Int) (fs : List Dsk.Fl) : upQ keep 0 fs = fs := by
  apply List.ext_getElem (upQ_len _ _ _)
  intro i h1 h2
  rw [upQ_at _ _ _ h2]; simp
theorem upQ_all (keep : List Int) (fs : List Dsk.Fl) : upQ keep fs.length fs = Dsk.crashed keep fs := by
  apply List.ext_getElem (by simp [Dsk.crashed, upQ])
  intro i h1 h2
  have hi : i < fs.length := by rwa [upQ_len] at h1
  rw [upQ_at _ _ _ hi, if_pos hi]; simp [Dsk.crashed]
theorem upQ_succ (keep : List Int) (k : Nat) (fs : List Dsk.Fl) : upQ keep (k + 1) fs = (upQ keep k fs).modify k (Dsk.crashF keep k) := by
  apply List.ext_getElem (by simp [upQ])
  intro i h1 h2
  have hi : i < fs.length := by rwa [upQ_len] at h1
  rw [upQ_at _ _ _ hi, List.getElem_modify, upQ_at _ _ _ hi]
  by_cases hik : k = i
  · subst hik
    rw [if_pos rfl, if_pos (by omega), if_neg (by omega)]
  · rw [if_neg hik]
    by_cases h : i < k
    · rw [if_pos h, if_pos (by omega)]
    · rw [if_neg h, if_neg (by omega)]
theorem crashed_take (K : List Int) (fs : List Dsk.Fl) (h : fs.length ≤ 16) : Dsk.crashed (K.take 16) fs = Dsk.crashed K fs := by
  unfold Dsk.crashed
  apply List.ext_getElem (by simp)
  intro i h1 h2
  have hi : i < fs.length := by simpa using h1
  simp only [List.getElem_mapIdx]
  have hk : ∀ n, Dsk.kept (K.take 16) i n = Dsk.kept K i n := fun n => by
    unfold Dsk.kept
    rw [List.length_take]
    by_cases hlt : i < K.length
    · rw [if_pos hlt, if_pos (by omega)]
      have : (K.take 16).getD i 0 = K.getD i 0 := by
        simp only [List.getD]
        rw [List.getElem?_take_of_lt (by omega)]
      rw [this]
    · rw [if_neg hlt, if_neg (by omega)]
  unfold Dsk.crashF
  rw [hk]
section
variable {w w' : World} {d : Nat} {D : Dsk.Dk} {S : Nat → Prop} {v kv : Value} {set : Bool} {left : Nat} {K : List Int}
theorem QHead.write {cap starts left : Nat} {down : Bool} (h : QHead w d cap starts down v set left kv) (o : Nat) (u : Value) : (w.setCell ⟨d, o, none⟩ u).heap[d]? = some (.cells (#[.int .i64 (cap : Int), .int .i64 (starts : Int), .bool down, v, .bool set, .int .i64 (left : Int), kv].setIfInBounds o u) 47 (0, 0)) :=
  heap_setCell_same w d o _ _ u h
/-- The file at a place has other bytes, and other ones are sure. -/
theorem row_mod {g c k n : Nat} {fs : List Dsk.Fl} (hr : w.ownsRow 0 67 3 (.slice (some ⟨g, 0, none⟩) n c) n (qRow fs)) (hk : k < fs.length) (f : Dsk.Fl → Dsk.Fl) (hn : (f fs[k]).name = fs[k].name) {m : Nat} (hm : (f fs[k]).sure = m) {t : ByteArray} (ht : str (f fs[k]).data = t)
    (hW : Foot (fun _ => False) ((w.setCell ⟨g, k * 3 + 2, none⟩ (.int .i64 (m : Int))).setCell ⟨g, k * 3 + 1, none⟩ (.string t)) w') :
    w'.ownsRow 0 67 3 (.slice (some ⟨g, 0, none⟩) n c) n (qRow (fs.modify k f)) ∧ Foot (fun x => x = g) w w' := by
  have hr2 := (World.ownsRow.stored (World.ownsRow.stored hr (k * 3 + 2) (.int .i64 (m : Int))).1 (k * 3 + 1) (.string t)).1
  refine ⟨?_, ((Foot.set (fun x => x = g) w _ _ rfl).trans (Foot.set (fun x => x = g) _ _ _ rfl) fun _ _ h => h).trans hW fun _ _ h => h.elim⟩
  rw [qRow_set fs hk f hn, hm, ht, List.set_comm _ _ (by omega)]
  exact owns_foot hr2 hW fun _ _ e => e
set_option maxRecDepth 100000 in
set_option maxHeartbeats 2000000 in
theorem qcrash_at {ka : Value} {keep : List Int} (h : QAt w d D S v set left kv K) (hup : D.down = false) (hk : Ints w ka keep) (hko : ∀ k, 0 < keep.length → ka.ownBlock = some k → k ≠ d ∧ v.ownBlock ≠ some k) :
    Calls Try.prog 34 #[.pointer (some ⟨d, 0, none⟩), ka] w fun e w' => e = .returned (.int .i64 0) ∧ QAt w' d (Dsk.goDown D keep) S v false left kv K ∧ Foot (fun k => k = d ∨ v.ownBlock = some k) w w' := by
  obtain ⟨KA, kc, rfl, hk1, hk2, hk3, hk4⟩ := hk
  have hdl := lt_of_block h.head
  have hfew := h.few
  obtain ⟨A, c, hv, hlc, hcm, hA⟩ := h.len
  have HQ := Lib.hid h
  have HK := Lib.hid hk4
  have HKO := Lib.hid hko
  have hh := h.head
  rw [hup] at hh
  have hw1 := hh.write 2 (.bool true)
  have hh1 : QHead (w.setCell ⟨d, 2, none⟩ (.bool true)) d D.cap D.starts true v set left kv := hw1
  have hh2 : QHead ((w.setCell ⟨d, 2, none⟩ (.bool true)).setCell ⟨d, 4, none⟩ (.bool false)) d D.cap D.starts true v false left kv := hh1.write 4 (.bool false)
  have hf2 : Foot (fun k => k = d) w ((w.setCell ⟨d, 2, none⟩ (.bool true)).setCell ⟨d, 4, none⟩ (.bool false)) := (Foot.set (fun k => k = d) w _ _ rfl).trans (Foot.set (fun k => k = d) _ _ _ rfl) fun _ _ h => h
  obtain ⟨k0, k1, k2, k3, k4, k5, k6, kz⟩ := hh.cells
  have z2 := kz 2
  have z4 := kz 4
  have y4 := hh1.cells.2.2.2.2.1
  have y4z := hh1.cells.2.2.2.2.2.2.2 4
  have HH2 := Lib.hid hh2
  have HF2 := Lib.hid hf2
  have hrow := owns_foot h.row hf2 (fun k hk' e => h.offd (by rw [hk', e]))
  have HROW := Lib.hid hrow
  subst hv
  unfold maxLen at hcm hk2
  clear h hk4 hk3 hko hh hw1 hh1 hh2 hf2 hrow k0 k1 k3 k5 k6 kz hA
  go_enter Try.func34, Try.ntmps34
  go_wp2_with fail
  generalize (w.setCell ⟨d, 2, none⟩ (.bool true)).setCell ⟨d, 4, none⟩ (.bool false) = w2 at *
  clear y4 y4z k2 k4 z2 z4
  go_loopg [5] D.fs.length (fun kx s5 wr => ∃ k : Nat, k ≤ D.fs.length ∧ s5 = .int .i64 (k : Int) ∧ D.fs.length - k ≤ kx ∧ Hid (wr.ownsRow 0 67 3 (.slice A D.fs.length c) D.fs.length (qRow (upQ keep k D.fs))) ∧
    Hid (Foot (fun k => (Value.slice A D.fs.length c).ownBlock = some k) w2 wr))
  case atStart => exact ⟨0, Nat.zero_le _, rfl, by omega, by rw [upQ_zero]; exact HROW.out, Foot.refl _ _⟩
  case round =>
    obtain ⟨k, hkn, rfl, hgk, HR, HW⟩ := hrel
    have hdw : d < w2.heap.size := Nat.lt_of_lt_of_le hdl HF2.out.size
    have hoffd := HQ.out.offd
    have hhr := HH2.out.foot HW.out hoffd
    have j3 := hhr.cells.2.2.2.1
    clear hhr
    by_cases hlt : k < D.fs.length
    · have hlk : k < (upQ keep k D.fs).length := by rw [upQ_len]; exact hlt
      obtain ⟨g, rfl⟩ : ∃ g, A = some ⟨g, 0, none⟩ := by
        rcases HR.out.2 with ⟨e, e'⟩ | ⟨g, cap, _, e, _⟩
        · omega
        · injection e with e; exact ⟨g, e⟩
      have hgl : g < wr.heap.size := owns_lt HR.out rfl
      have hgl2 : g < w2.heap.size := owns_lt HROW.out rfl
      obtain ⟨c1, c2, c3⟩ := qRow_at (upQ keep k D.fs) hlk
      rw [upQ_at _ _ _ hlt, if_neg (Nat.lt_irrefl k)] at c1 c2 c3
      have b2 := (World.ownsRow.cellAt HR.out (k * 3 + 1) (by omega)).trans c2
      have b3 := (World.ownsRow.cellAt HR.out (k * 3 + 2) (by omega)).trans c3
      have z2 := World.ownsRow.frozenAt HR.out (k * 3 + 1)
      have z3 := World.ownsRow.frozenAt HR.out (k * 3 + 2)
      have hsu := HQ.out.good.sure _ (List.getElem_mem hlt)
      have hrm := HQ.out.good.room
      have hcp := HQ.out.good.cap1
      have htl := qtotal_take D.fs hlt
      have hle : Dsk.total (D.fs.take (k + 1)) ≤ Dsk.total D.fs := Dsk.total_sublist (List.take_sublist _ _)
      have hsz := str_size D.fs[k].data
      obtain ⟨N, hN, hNle⟩ : ∃ N : Nat, Dsk.kept keep k (D.fs[k].data.length - D.fs[k].sure) = N ∧ D.fs[k].sure + N ≤ D.fs[k].data.length := ⟨_, rfl, by have := kept_le keep k (D.fs[k].data.length - D.fs[k].sure); omega⟩
      have HST := Lib.hid (fun (W : World) (h : Foot (fun _ => False) ((wr.setCell ⟨g, k * 3 + 2, none⟩ (.int .i64 ((D.fs[k].sure + N : Nat) : Int))).setCell ⟨g, k * 3 + 1, none⟩ (.string ((str D.fs[k].data).extract 0 (D.fs[k].sure + N)))) W) =>
        row_mod (w' := W) HR.out hlk (Dsk.crashF keep k) rfl (m := D.fs[k].sure + N) (by rw [upQ_at _ _ _ hlt, if_neg (Nat.lt_irrefl k), ← hN]; rfl) (t := (str D.fs[k].data).extract 0 (D.fs[k].sure + N)) (by rw [upQ_at _ _ _ hlt, if_neg (Nat.lt_irrefl k), ← hN, ← str_take]; rfl) h)
      rw [← upQ_succ] at HST
      have hR2 := World.ownsRow.stored HR.out (k * 3 + 2)
      have HR2 := Lib.hid (fun u => (hR2 u).1)
      have b2' : ∀ u, (wr.setCell ⟨g, k * 3 + 2, none⟩ u).cell? ⟨g, k * 3 + 1, none⟩ = some (.string (str D.fs[k].data)) := fun u => (World.cell?_setCell_other _ _ _ _ (fun e => by injection e with _ e; omega)).trans b2
      have HN := Lib.hid hN
      have hL : D.fs[k].data.length ≤ 1048576 := by omega
      clear c1 c2 c3 hR2 hN htl hle hrm hcp
      generalize D.fs[k].data.length = L at *
      generalize str D.fs[k].data = t at *
      generalize D.fs[k].sure = sr at *
      by_cases hkk : k < keep.length
      · obtain ⟨b, off, rfl, hbl, hkc⟩ := HK.out (by omega)
        have hkc := hkc k hkk
        have hbd := HKO.out b (by omega) rfl
        have hbg : b ≠ g := fun e => hbd.2 (by rw [e]; rfl)
        have hkc := (HF2.out.cell (p := ⟨b, off + k, none⟩) hbl hbd.1).trans hkc
        have hkc := (HW.out.cell (p := ⟨b, off + k, none⟩) (Nat.lt_of_lt_of_le hbl HF2.out.size) (fun e => hbd.2 e)).trans hkc
        have hx : max 0 (min (keep.getD k 0) ((L : Int) - (sr : Int))) = (N : Int) := by
          rw [← HN.out]; unfold Dsk.kept; rw [if_pos hkk]; omega
        generalize keep.getD k 0 = x at *
        clear hbd
        go_wp2_with fail
        go_quiet (fail)
        go_wp2_with fail
        refine wp_region_tail_drawn 17 (by kernel_rfl) (by kernel_rfl) ?_
        simp only [List.take_succ_cons, List.take_zero, List.drop_succ_cons, List.drop_zero]
        repeat (go_big_quiet_step (fail))
        refine wpQuiet_nil ?_
        intro _ hw'
        obtain ⟨mq, hw''⟩ := hw'
        subst hw''
        go_wp2
        refine wp_region_tail_drawn 24 (by kernel_rfl) (by kernel_rfl) ?_
        simp only [List.take_succ_cons, List.take_zero, List.drop_succ_cons, List.drop_zero]
        repeat (go_big_quiet_step (fail))
        refine wpQuiet_nil ?_
        intro _ hw'
        obtain ⟨mr, hw''⟩ := hw'
        subst hw''
        go_wp2
        obtain ⟨e1, e2⟩ := HST.out _ (eqv_foot (S := fun _ => False) (w' := (((wr.drewN (nq + mq)).setCell ⟨g, k * 3 + 2, none⟩ (.int .i64 ((sr : Int) + (N : Int)))).drewN mr).setCell ⟨g, k * 3 + 1, none⟩ (.string (t.extract 0 (sr + N)))) rfl rfl rfl rfl)
        go_roundg (D.fs.length - (k + 1))
        case measure => omega
        case rel => exact ⟨k + 1, by omega, by go_num, by omega, e1, HW.out.trans e2 fun _ _ h => by rw [h]; rfl⟩
      · have h0 : N = 0 := by rw [← HN.out]; unfold Dsk.kept; rw [if_neg hkk]
        subst h0
        have t1 : decide ((k : Int) < (keep.length : Int)) = false := decide_eq_false (by omega)
        go_wp2_with fail
        refine wp_region_tail_drawn 17 (by kernel_rfl) (by kernel_rfl) ?_
        simp only [List.take_succ_cons, List.take_zero, List.drop_succ_cons, List.drop_zero]
        repeat (go_big_quiet_step (fail))
        refine wpQuiet_nil ?_
        intro _ hw'
        obtain ⟨mq, hw''⟩ := hw'
        subst hw''
        go_wp2
        refine wp_region_tail_drawn 24 (by kernel_rfl) (by kernel_rfl) ?_
        simp only [List.take_succ_cons, List.take_zero, List.drop_succ_cons, List.drop_zero]
        repeat (go_big_quiet_step (fail))
        refine wpQuiet_nil ?_
        intro _ hw'
        obtain ⟨mr, hw''⟩ := hw'
        subst hw''
        go_wp2
        simp only [Nat.add_zero] at HST
        obtain ⟨e1, e2⟩ := HST.out _ (eqv_foot (S := fun _ => False) (w' := (((wr.drewN mq).setCell ⟨g, k * 3 + 2, none⟩ (.int .i64 (sr : Int))).drewN mr).setCell ⟨g, k * 3 + 1, none⟩ (.string (t.extract 0 sr))) rfl rfl rfl rfl)
        go_roundg (D.fs.length - (k + 1))
        case measure => omega
        case rel => exact ⟨k + 1, by omega, by go_num, by omega, e1, HW.out.trans e2 fun _ _ h => by rw [h]; rfl⟩
    · obtain rfl : k = D.fs.length := by omega
      rw [upQ_all] at HR
      have HQ' := Lib.hid (show QAt wr d (Dsk.goDown D keep) S (.slice A D.fs.length c) false left kv K from by
        have q := HQ.out
        have hlen : (Dsk.crashed keep D.fs).length = D.fs.length := by simp [Dsk.crashed]
        refine ⟨HH2.out.foot HW.out hoffd, ?_, ?_, q.klen, q.lmax, rfl, hoffd, q.koff, fun k hk => ⟨?_, (q.kin k hk).2⟩, q.vin, q.din, fun k hk => ?_, q.good.down keep⟩
        · show wr.ownsRow 0 67 3 _ (Dsk.crashed keep D.fs).length _
          rw [hlen]; exact HR.out
        · exact (q.keep.foot HF2.out fun k hk e => (q.koff k hk).1 e).foot HW.out fun k hk e => (q.koff k hk).2 e
        · exact Nat.lt_of_lt_of_le (q.kin k hk).1 (Nat.le_trans HF2.out.size HW.out.size)
        · exact Nat.lt_of_lt_of_le (q.lt k hk) (Nat.le_trans HF2.out.size HW.out.size))
      go_wp2_with fail
      go_ret
      exact ⟨rfl, HQ'.out, (HF2.out.mono fun _ _ h => .inl h).trans HW.out fun _ _ h => .inr h⟩
theorem qcrash_down {ka : Value} (h : QAt w d D S v set left kv K) (hdn : D.down = true) :
    Calls Try.prog 34 #[.pointer (some ⟨d, 0, none⟩), ka] w fun e w' => e = .returned (.int .i64 41) ∧ w = w' := by
  have hh := h.head
  rw [hdn] at hh
  obtain ⟨k0, k1, k2, k3, k4, k5, k6, kz⟩ := hh.cells
  clear h hh k0 k1 k3 k4 k5 k6 kz
  go_enter Try.func34, Try.ntmps34
  go_wp2_with fail
  go_ret
  exact ⟨rfl, rfl⟩
theorem QAt.setOff (h : QAt w d D S v false left kv K) : D.fail = none := h.fail
theorem QAt.setOn (h : QAt w d D S v true left kv K) : D.fail = some (left, K.take 16) := h.fail
set_option maxRecDepth 100000 in
/-- A failure that is none, or comes now: nothing is written. -/
theorem qfails_same (h : QAt w d D S v set left kv K) (hs : set = false ∨ left = 0) :
    Calls Try.prog 66 #[.pointer (some ⟨d, 0, none⟩)] w fun e w' => e = .returned (.bool set) ∧ w = w' := by
  obtain ⟨k0, k1, k2, k3, k4, k5, k6, kz⟩ := h.head.cells
  clear h k0 k1 k2 k3 k6 kz
  rcases hs with rfl | rfl
  · go_enter Try.func66, Try.ntmps66
    go_wp2_with fail
    go_ret
    exact ⟨rfl, rfl⟩
  · cases set
    all_goals
      go_enter Try.func66, Try.ntmps66
      go_wp2_with fail
      go_ret
      exact ⟨rfl, rfl⟩
set_option maxRecDepth 100000 in
theorem qfails_more {n : Nat} (h : QAt w d D S v true (n + 1) kv K) :
    Calls Try.prog 66 #[.pointer (some ⟨d, 0, none⟩)] w fun e w' => e = .returned (.bool false) ∧ w' = w.setCell ⟨d, 5, none⟩ (.int .i64 (n : Int)) := by
  obtain ⟨k0, k1, k2, k3, k4, k5, k6, kz⟩ := h.head.cells
  have z5 := kz 5
  have hm := h.lmax
  obtain ⟨q, hq⟩ : ∃ q : Nat, q = n + 1 := ⟨_, rfl⟩
  have HQ := Lib.hid hq
  rw [← hq] at k5 hm
  have hq0 : 0 < q := by omega
  have hqn : (q : Int) - 1 = (n : Int) := by omega
  have hne : ((q : Int) == 0) = false := by rw [beq_eq_false_iff_ne]; omega
  clear h k0 k1 k2 k3 k6 kz hq
  go_enter Try.func66, Try.ntmps66
  go_wp2_with fail
  go_ret
  exact ⟨rfl, rfl⟩
theorem QAt.less {n : Nat} (h : QAt w d D S v true (n + 1) kv K) : QAt (w.setCell ⟨d, 5, none⟩ (.int .i64 (n : Int))) d { D with fail := some (n, K.take 16) } S v true n kv K ∧ Foot (fun k => k = d) w (w.setCell ⟨d, 5, none⟩ (.int .i64 (n : Int))) := by
  have hf : Foot (fun k => k = d) w (w.setCell ⟨d, 5, none⟩ (.int .i64 (n : Int))) := Foot.set (fun k => k = d) w _ _ rfl
  refine ⟨⟨h.head.write 5 (.int .i64 (n : Int)), owns_foot h.row hf fun k hk e => h.offd (by rw [hk, e]), h.keep.foot hf fun k hk e => (h.koff k hk).1 e, h.klen, by have := h.lmax; omega, rfl, h.offd, h.koff, fun k hk => ⟨Nat.lt_of_lt_of_le (h.kin k hk).1 hf.size, (h.kin k hk).2⟩, h.vin, h.din, fun k hk => Nat.lt_of_lt_of_le (h.lt k hk) hf.size, h.good.same _ _ _⟩, hf⟩
def PassQ (w : World) (d : Nat) (D : Dsk.Dk) (S : Nat → Prop) (v : Value) (set : Bool) (kv : Value) (K : List Int) (e : Ending) (w' : World) : Prop :=
  ((Dsk.pass D).2 = 0 ∧ e = .returned (.int .i64 0) ∧ ∃ left', QAt w' d (Dsk.pass D).1 S v set left' kv K ∧ Foot (fun k => k = d) w w') ∨
  ((Dsk.pass D).2 = 41 ∧ e = .returned (.int .i64 41) ∧ IsQ w' d (Dsk.pass D).1 S ∧ Foot (fun k => k = d ∨ v.ownBlock = some k) w w')
theorem down_take (K : List Int) (D : Dsk.Dk) (h : D.fs.length ≤ 16) : Dsk.goDown D (K.take 16) = Dsk.goDown D K := by
  unfold Dsk.goDown; rw [crashed_take K D.fs h]
set_option maxRecDepth 100000 in
theorem qchange_at (h : QAt w d D S v set left kv K) (hup : D.down = false) : Calls Try.prog 61 #[.pointer (some ⟨d, 0, none⟩)] w (PassQ w d D S v set kv K) := by
  have hp : ∀ o, Dsk.pass D = o → (o = (D, 0) ∧ (set = false)) ∨ (∃ n, set = true ∧ left = n + 1 ∧ o = ({ D with fail := some (n, K.take 16) }, 0)) ∨ (set = true ∧ left = 0 ∧ o = (Dsk.goDown D K, 41)) := by
    intro o ho
    cases set
    · left
      have := h.setOff
      unfold Dsk.pass at ho
      rw [this] at ho
      exact ⟨ho.symm, rfl⟩
    · right
      have := h.setOn
      unfold Dsk.pass at ho
      rw [this] at ho
      rcases left with _ | n
      · right; exact ⟨rfl, rfl, by rw [← ho, ← down_take K D h.few]⟩
      · left; exact ⟨n, rfl, rfl, ho.symm⟩
  rcases hp _ rfl with ⟨h1, rfl⟩ | ⟨n, rfl, rfl, h1⟩ | ⟨rfl, rfl, h1⟩
  · have HF := Lib.hid (qfails_same h (.inl rfl))
    have HQ := Lib.hid h
    have H1 := Lib.hid h1
    clear h h1 hp
    go_enter Try.func61, Try.ntmps61
    go_wp2_with fail
    refine HF.out.mono ?_
    rintro e w1 ⟨rfl, rfl⟩
    go_wp2_with fail
    go_ret
    exact .inl ⟨by rw [H1.out], rfl, left, by rw [H1.out]; exact HQ.out, Foot.refl _ _⟩
  · have HF := Lib.hid (qfails_more h)
    have HQ := Lib.hid h.less
    have H1 := Lib.hid h1
    clear h h1 hp
    go_enter Try.func61, Try.ntmps61
    go_wp2_with fail
    refine HF.out.mono ?_
    rintro e w1 ⟨rfl, rfl⟩
    go_wp2_with fail
    go_ret
    exact .inl ⟨by rw [H1.out], rfl, n, by rw [H1.out]; exact HQ.out.1, HQ.out.2⟩
  · have HF := Lib.hid (qfails_same h (.inr rfl))
    have HC := Lib.hid (qcrash_at h hup h.keep fun k _ hk => h.koff k hk)
    have k6 := h.head.cells.2.2.2.2.2.2.1
    have H1 := Lib.hid h1
    clear h h1 hp
    go_enter Try.func61, Try.ntmps61
    go_wp2_with fail
    refine HF.out.mono ?_
    rintro e w1 ⟨rfl, rfl⟩
    go_wp2_with fail
    refine HC.out.mono ?_
    rintro e w2 ⟨rfl, hq, hf⟩
    have HQ := Lib.hid hq
    clear hq
    go_wp2_with fail
    go_ret
    exact .inr ⟨by rw [H1.out], rfl, by rw [H1.out]; exact ⟨v, false, 0, kv, K, HQ.out⟩, hf⟩
end
end Go.Proofs.Ytceldekbkffhpaa
