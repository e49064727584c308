/-
  Contracts of each, Names, Unsynced, Size, Up, Starts, Start, New.
-/
import Derived.Test.YtceldekbkffhpaaDRemove
namespace Go.Proofs.Ytceldekbkffhpaa
open Go.RowKit
section
variable {w w' : World} {d : Nat} {D : Dsk.Dk} {S T : Nat → Prop} {v : Value} {fs : List MF} {left : Int} {fv : Value}
theorem name_cl {g o : Nat} {s : ByteArray} (h : w.cell? ⟨g, o, none⟩ = some (.string s)) : Calls Try.prog 42 #[.pointer (some ⟨g, o, none⟩)] w fun e w' => e = .returned (.string s) ∧ w' = w := by
  go_enter Try.func42, Try.ntmps42
  go_wp2
  go_ret
  exact ⟨rfl, rfl⟩
theorem size_cl {g o n c : Nat} {A : Option Addr} (h : w.cell? ⟨g, o + 1, none⟩ = some (.slice A n c)) : Calls Try.prog 45 #[.pointer (some ⟨g, o, none⟩)] w fun e w' => e = .returned (.int .i64 (n : Int)) ∧ w' = w := by
  go_enter Try.func45, Try.ntmps45
  go_wp2
  go_ret
  exact ⟨rfl, rfl⟩
/-- What 'each' tells: a row of the call's own. -/
def EachPost (e : TypeId) (w : World) (xs : List Value) (en : Ending) (w' : World) : Prop := ∃ v, en = .returned v ∧ w'.ownsRow w.heap.size e 1 v xs.length xs ∧ Below w.heap.size w w'
theorem set_take {xs ys : List Value} {k : Nat} {y : Value} (hl : xs.length = ys.length) (hk : k < xs.length) (ht : xs.take k = ys.take k) (hy : ys[k]? = some y) : (xs.set k y).take (k + 1) = ys.take (k + 1) := by
  have h1 : k < ys.length := by omega
  rw [List.take_succ_eq_append_getElem (by simpa using hk), List.take_succ_eq_append_getElem h1, List.take_set_of_le (Nat.le_refl _), ht]
  rw [List.getElem?_eq_getElem h1] at hy
  injection hy with hy
  simp [hy]
/-- A world that parts from another in draws alone. -/
theorem owns_drewN {base : Nat} {e : TypeId} {sz n : Nat} {v : Value} {xs : List Value} (m : Nat) (h : w.ownsRow base e sz v n xs) : (w.drewN m).ownsRow base e sz v n xs := h

set_option maxRecDepth 100000 in
set_option maxHeartbeats 1000000 in
theorem each_str (k0 : Nat) (F : MF → ByteArray) (eg : ∀ args w, (callFunc k0 args).run Try.prog w = .ok (.enter k0 args) w) (h : DiskAt w d D S T v fs left fv)
    (hcl : ∀ W k gr c, v = .slice (some ⟨gr, 0, none⟩) fs.length c → (hk : k < fs.length) → Files W d v fs → Calls Try.prog k0 #[.pointer (some ⟨gr, k * 3, none⟩)] W fun e w' => e = .returned (Value.string (F fs[k])) ∧ ∃ m, w' = W.drewN m) :
    Calls Try.prog 41 #[.pointer (some ⟨d, 0, none⟩), .func (.func k0) #[] #[]] w (EachPost 9 w (fs.map fun f => Value.string (F f))) := by
  obtain ⟨i0, hi, hz0, hz1, hz2⟩ := info_parts Try.info_str
  have hfew := h.few
  obtain ⟨q0, q1, q2, q3, q4, q5, qz⟩ := h.head.cells
  have HNO := Lib.hid (none_no d D.cap w q0 h.good.cap0)
  obtain ⟨A, c, hv, hc1, hc2, hc3⟩ := h.files.len
  subst hv
  obtain ⟨w1, hmk, hown, hgr⟩ := run_make_full (P := Try.prog) w w.heap.size 40 9 i0 (.string ⟨#[]⟩) 1 Try.underlying40 hi hz0 hz1 .i64 .i64 fs.length (by rw [hz2]; omega) (by unfold maxLen; omega) (Nat.le_refl _)
  have hb1 : Below w.heap.size w w1 := (Below.refl _ _).grown hgr (Nat.le_refl _) (fun k hk => by cases hk)
  have HH := Lib.hid h
  have HC := Lib.hid hcl
  have HO := Lib.hid hown
  have HB := Lib.hid hb1
  have hd := h.head.lt
  have HQ1 := Lib.hid q1
  have q11 := (hb1.cell (p := ⟨d, 1, none⟩) hd).trans q1
  have HL := Lib.hid (show (fs.map fun f => Value.string (F f)).length = fs.length from List.length_map _)
  have HA := Lib.hid hc3
  clear h hcl hown hb1 hgr q0 q2 q3 q4 q5 qz hi hz0 hz1 hz2 hc3
  unfold maxLen at hc2
  go_enter Try.func41, Try.ntmps41
  go_wp2_with fail
  refine HNO.out.mono ?_
  rintro e w0 ⟨rfl, rfl⟩
  go_wp2_with fail
  clear hmk
  go_loopg [20] fs.length (fun kx s20 wr => ∃ k : Nat, k ≤ fs.length ∧ s20 = .int .i64 (k : Int) ∧ fs.length - k ≤ kx ∧ Hid (∃ xs, wr.ownsRow w.heap.size 9 1 (.slice (some ⟨w.heap.size, 0, none⟩) fs.length fs.length) fs.length xs ∧ xs.take k = (fs.map fun f => Value.string (F f)).take k) ∧ Below w.heap.size w wr)
  case atStart => exact ⟨0, Nat.zero_le _, rfl, by omega, ⟨_, HO.out, by rw [List.take_zero, List.take_zero]⟩, HB.out⟩
  case round =>
    obtain ⟨k, hk, rfl, hkx, HX, hb⟩ := hrel
    clear q11
    have q1r := (hb.cell (p := ⟨d, 1, none⟩) hd).trans HQ1.out
    by_cases hlt : k < fs.length
    · obtain ⟨gr, c', hv', r1, r2, r3, r4, r5, r6, r7⟩ := HH.out.files.at_ hlt
      clear r1 r2 r3 r4 r5 r6 r7
      injection hv' with hv1 hvl hv3
      subst hv1; subst hv3
      clear hvl
      obtain ⟨xs, hxo, hxt⟩ := HX.out
      have hxl : xs.length = fs.length := by have := hxo.1; omega
      have hcell := World.ownsRow.cellAt hxo k (by omega)
      rw [List.getElem?_eq_getElem (by omega)] at hcell
      have hfz := World.ownsRow.frozenAt hxo k
      have HXO := Lib.hid hxo
      have HXT := Lib.hid hxt
      have HCK := Lib.hid (HC.out wr k gr c rfl hlt (HH.out.below hb).files)
      have hsz : w.heap.size < wr.heap.size := by
        have := owns_lt hxo (k := w.heap.size) rfl
        exact this
      clear hxo hxt HX
      generalize xs[k] = y at *
      go_wp2_with (go_at_fn k0; refine HCK.out.mono ?_; rintro e w' ⟨rfl, m, rfl⟩)
      have hst := (World.ownsRow.stored (owns_drewN m HXO.out) k (Value.string (F fs[k]))).1
      go_roundg (fs.length - (k + 1))
      case measure => omega
      case rel =>
        exact ⟨k + 1, by omega, by go_num, by omega, ⟨_, hst, set_take (by rw [hxl, HL.out]) (by omega) HXT.out (by simp [hlt])⟩, (hb.trans (⟨rfl, rfl, rfl, Nat.le_refl _, fun _ _ => rfl⟩ : Below w.heap.size wr (wr.drewN m))).setCell (p := ⟨w.heap.size, k, none⟩) (Nat.le_refl _) _⟩
    · obtain rfl : k = fs.length := by omega
      go_wp2_with fail
      go_ret
      obtain ⟨xs, hxo, hxt⟩ := HX.out
      have hxl : xs.length = fs.length := by have := hxo.1; omega
      rw [List.take_of_length_le (by omega), List.take_of_length_le (by rw [HL.out]; exact Nat.le_refl _)] at hxt
      subst hxt
      exact ⟨_, rfl, by rw [HL.out]; exact hxo, hb⟩

set_option maxRecDepth 100000 in
set_option maxHeartbeats 1000000 in
theorem each_int (k0 : Nat) (F : MF → Int) (eg : ∀ args w, (callFunc k0 args).run Try.prog w = .ok (.enter k0 args) w) (h : DiskAt w d D S T v fs left fv)
    (hcl : ∀ W k gr c, v = .slice (some ⟨gr, 0, none⟩) fs.length c → (hk : k < fs.length) → Files W d v fs → Calls Try.prog k0 #[.pointer (some ⟨gr, k * 3, none⟩)] W fun e w' => e = .returned (Value.int .i64 (F fs[k])) ∧ ∃ m, w' = W.drewN m) :
    Calls Try.prog 43 #[.pointer (some ⟨d, 0, none⟩), .func (.func k0) #[] #[]] w (EachPost 3 w (fs.map fun f => Value.int .i64 (F f))) := by
  obtain ⟨i0, hi, hz0, hz1, hz2⟩ := info_parts Try.info_int
  have hfew := h.few
  obtain ⟨q0, q1, q2, q3, q4, q5, qz⟩ := h.head.cells
  have HNO := Lib.hid (none_no d D.cap w q0 h.good.cap0)
  obtain ⟨A, c, hv, hc1, hc2, hc3⟩ := h.files.len
  subst hv
  obtain ⟨w1, hmk, hown, hgr⟩ := run_make_full (P := Try.prog) w w.heap.size 32 3 i0 (.int .i64 0) 1 Try.underlying32 hi hz0 hz1 .i64 .i64 fs.length (by rw [hz2]; omega) (by unfold maxLen; omega) (Nat.le_refl _)
  have hb1 : Below w.heap.size w w1 := (Below.refl _ _).grown hgr (Nat.le_refl _) (fun k hk => by cases hk)
  have HH := Lib.hid h
  have HC := Lib.hid hcl
  have HO := Lib.hid hown
  have HB := Lib.hid hb1
  have hd := h.head.lt
  have HQ1 := Lib.hid q1
  have q11 := (hb1.cell (p := ⟨d, 1, none⟩) hd).trans q1
  have HL := Lib.hid (show (fs.map fun f => Value.int .i64 (F f)).length = fs.length from List.length_map _)
  have HA := Lib.hid hc3
  clear h hcl hown hb1 hgr q0 q2 q3 q4 q5 qz hi hz0 hz1 hz2 hc3
  unfold maxLen at hc2
  go_enter Try.func43, Try.ntmps43
  go_wp2_with fail
  refine HNO.out.mono ?_
  rintro e w0 ⟨rfl, rfl⟩
  go_wp2_with fail
  clear hmk
  go_loopg [20] fs.length (fun kx s20 wr => ∃ k : Nat, k ≤ fs.length ∧ s20 = .int .i64 (k : Int) ∧ fs.length - k ≤ kx ∧ Hid (∃ xs, wr.ownsRow w.heap.size 3 1 (.slice (some ⟨w.heap.size, 0, none⟩) fs.length fs.length) fs.length xs ∧ xs.take k = (fs.map fun f => Value.int .i64 (F f)).take k) ∧ Below w.heap.size w wr)
  case atStart => exact ⟨0, Nat.zero_le _, rfl, by omega, ⟨_, HO.out, by rw [List.take_zero, List.take_zero]⟩, HB.out⟩
  case round =>
    obtain ⟨k, hk, rfl, hkx, HX, hb⟩ := hrel
    clear q11
    have q1r := (hb.cell (p := ⟨d, 1, none⟩) hd).trans HQ1.out
    by_cases hlt : k < fs.length
    · obtain ⟨gr, c', hv', r1, r2, r3, r4, r5, r6, r7⟩ := HH.out.files.at_ hlt
      clear r1 r2 r3 r4 r5 r6 r7
      injection hv' with hv1 hvl hv3
      subst hv1; subst hv3
      clear hvl
      obtain ⟨xs, hxo, hxt⟩ := HX.out
      have hxl : xs.length = fs.length := by have := hxo.1; omega
      have hcell := World.ownsRow.cellAt hxo k (by omega)
      rw [List.getElem?_eq_getElem (by omega)] at hcell
      have hfz := World.ownsRow.frozenAt hxo k
      have HXO := Lib.hid hxo
      have HXT := Lib.hid hxt
      have HCK := Lib.hid (HC.out wr k gr c rfl hlt (HH.out.below hb).files)
      have hsz : w.heap.size < wr.heap.size := by
        have := owns_lt hxo (k := w.heap.size) rfl
        exact this
      clear hxo hxt HX
      generalize xs[k] = y at *
      go_wp2_with (go_at_fn k0; refine HCK.out.mono ?_; rintro e w' ⟨rfl, m, rfl⟩)
      have hst := (World.ownsRow.stored (owns_drewN m HXO.out) k (Value.int .i64 (F fs[k]))).1
      go_roundg (fs.length - (k + 1))
      case measure => omega
      case rel =>
        exact ⟨k + 1, by omega, by go_num, by omega, ⟨_, hst, set_take (by rw [hxl, HL.out]) (by omega) HXT.out (by simp [hlt])⟩, (hb.trans (⟨rfl, rfl, rfl, Nat.le_refl _, fun _ _ => rfl⟩ : Below w.heap.size wr (wr.drewN m))).setCell (p := ⟨w.heap.size, k, none⟩) (Nat.le_refl _) _⟩
    · obtain rfl : k = fs.length := by omega
      go_wp2_with fail
      go_ret
      obtain ⟨xs, hxo, hxt⟩ := HX.out
      have hxl : xs.length = fs.length := by have := hxo.1; omega
      rw [List.take_of_length_le (by omega), List.take_of_length_le (by rw [HL.out]; exact Nat.le_refl _)] at hxt
      subst hxt
      exact ⟨_, rfl, by rw [HL.out]; exact hxo, hb⟩

set_option maxRecDepth 100000 in
theorem names_any (h : IsDisk w d D S) : Calls Try.prog 13 #[.pointer (some ⟨d, 0, none⟩)] w (EachPost 9 w ((Dsk.names D.fs).map Value.string)) := by
  obtain ⟨T, v, fs, left, fv, h⟩ := h
  have HE := Lib.hid (each_str 42 (fun f => f.fl.name) (fun _ _ => (enters_of Try.func42 (by kernel_rfl) rfl) _ _) h (fun W k gr c hv hk hf => by
    obtain ⟨g', c', hv', _, _, _, b1, b2, b3, bz⟩ := hf.at_ hk
    rw [hv] at hv'
    injection hv' with hv1 _ _
    injection hv1 with hv1
    injection hv1 with hv1
    subst hv1
    exact (name_cl b1).mono fun e w' ⟨h1, h2⟩ => ⟨h1, 0, h2⟩))
  rw [show (fs.map fun f => Value.string f.fl.name) = (Dsk.names D.fs).map Value.string from by rw [← h.fls]; simp [Dsk.names]] at HE
  clear h
  go_enter Try.func13, Try.ntmps13
  go_wp2_with fail
  refine HE.out.mono ?_
  rintro e w' ⟨v', rfl, h1, h2⟩
  have H1 := Lib.hid h1
  clear h1
  go_wp2_with fail
  go_ret
  exact ⟨v', rfl, H1.out, h2⟩
set_option maxRecDepth 100000 in
theorem unsync_any (h : IsDisk w d D S) : Calls Try.prog 14 #[.pointer (some ⟨d, 0, none⟩)] w (EachPost 3 w ((Dsk.unsynced D.fs).map (Value.int .i64))) := by
  obtain ⟨T, v, fs, left, fv, h⟩ := h
  have HE := Lib.hid (each_int 44 (fun f => ((f.fl.data.length - f.fl.sure : Nat) : Int)) (fun _ _ => (enters_of Try.func44 (by kernel_rfl) rfl) _ _) h (fun W k gr c hv hk hf => by
    obtain ⟨g', c', hv', _, _, _, b1, b2, b3, bz⟩ := hf.at_ hk
    rw [hv] at hv'
    injection hv' with hv1 _ _
    injection hv1 with hv1
    injection hv1 with hv1
    subst hv1
    obtain ⟨A, bc, hbv, q1, q2, _⟩ := (hf.bytes _ (List.getElem_mem hk)).val
    rw [hbv] at b2
    exact (unsynced_any gr (k * 3) _ bc A _ W b2 b3 (hf.sure _ (List.getElem_mem hk)) (by omega)).mono fun e w' ⟨h1, h2⟩ => ⟨h1, 1, h2⟩))
  rw [show (fs.map fun f => Value.int .i64 ((f.fl.data.length - f.fl.sure : Nat) : Int)) = (Dsk.unsynced D.fs).map (Value.int .i64) from by rw [← h.fls]; simp [Dsk.unsynced]] at HE
  clear h
  go_enter Try.func14, Try.ntmps14
  go_wp2_with fail
  refine HE.out.mono ?_
  rintro e w' ⟨v', rfl, h1, h2⟩
  have H1 := Lib.hid h1
  clear h1
  go_wp2_with fail
  go_ret
  exact ⟨v', rfl, H1.out, h2⟩
theorem total_take (l : List Nat) {k : Nat} (hk : k < l.length) : (l.take (k + 1)).sum = (l.take k).sum + l[k] := by
  rw [List.take_succ_eq_append_getElem hk, List.sum_append, List.sum_cons, List.sum_nil]; omega
theorem total_take_le (l : List Nat) (k : Nat) : (l.take k).sum ≤ l.sum := by
  conv => rhs; rw [← List.take_append_drop k l]
  rw [List.sum_append]; omega
set_option maxRecDepth 100000 in
set_option maxHeartbeats 1000000 in
theorem size_any (h : IsDisk w d D S) : Calls Try.prog 18 #[.pointer (some ⟨d, 0, none⟩)] w fun e w' => e = .returned (.int .i64 (Dsk.total D.fs : Int)) ∧ Below w.heap.size w w' := by
  obtain ⟨T, v, fs, left, fv, h⟩ := h
  have HE := Lib.hid (each_int 45 (fun f => (f.fl.data.length : Int)) (fun _ _ => (enters_of Try.func45 (by kernel_rfl) rfl) _ _) h (fun W k gr c hv hk hf => by
    obtain ⟨g', c', hv', _, _, _, b1, b2, b3, bz⟩ := hf.at_ hk
    rw [hv] at hv'
    injection hv' with hv1 _ _
    injection hv1 with hv1
    injection hv1 with hv1
    subst hv1
    obtain ⟨A, bc, hbv, q1, q2, _⟩ := (hf.bytes _ (List.getElem_mem hk)).val
    rw [hbv] at b2
    exact (size_cl b2).mono fun e w' ⟨h1, h2⟩ => ⟨h1, 0, h2⟩))
  obtain ⟨ls, hls⟩ : ∃ ls : List Nat, ls = fs.map fun f => f.fl.data.length := ⟨_, rfl⟩
  have htot : Dsk.total D.fs = ls.sum := by rw [hls, ← h.fls]; simp [Dsk.total, Function.comp_def]
  have hroom := h.good.room
  have hcap := h.good.cap1
  have hfew := h.few
  have hlen : ls.length = fs.length := by rw [hls]; simp
  rw [show (fs.map fun f => Value.int .i64 (f.fl.data.length : Int)) = ls.map fun n : Nat => Value.int .i64 (n : Int) from by rw [hls]; simp] at HE
  have HT := Lib.hid htot
  have hsum : ls.sum ≤ 1048576 := by omega
  have hl16 : ls.length ≤ 16 := by omega
  clear h hls htot hroom hcap hfew hlen
  go_enter Try.func18, Try.ntmps18
  go_wp2_with fail
  refine HE.out.mono ?_
  rintro e w1 ⟨v', rfl, h1, h2⟩
  rw [List.length_map] at h1
  obtain ⟨A, c, rfl, hc⟩ : ∃ A c, v' = .slice A ls.length c ∧ (0 < ls.length → ∃ g, A = some ⟨g, 0, none⟩) := by
    rcases h1.2 with ⟨rfl, h0⟩ | ⟨g, cap, cur, rfl, _⟩
    · exact ⟨none, 0, by rw [h0], fun h => by omega⟩
    · exact ⟨_, cap, rfl, fun _ => ⟨g, rfl⟩⟩
  have H1 := Lib.hid h1
  have HC := Lib.hid hc
  clear h1 hc
  go_wp2_with fail
  go_loopg [3, 9] ls.length (fun kx s3 s9 wr => ∃ k : Nat, k ≤ ls.length ∧ s9 = .int .i64 (k : Int) ∧ ls.length - k ≤ kx ∧ s3 = .int .i64 ((ls.take k).sum : Nat) ∧ w1 = wr)
  case atStart => exact ⟨0, Nat.zero_le _, rfl, by omega, by simp, rfl⟩
  case round =>
    obtain ⟨k, hk, rfl, hkx, rfl, rfl⟩ := hrel
    by_cases hlt : k < ls.length
    · obtain ⟨g, rfl⟩ := HC.out (by omega)
      have hcell := World.ownsRow.cellAt H1.out k (by omega)
      rw [List.getElem?_map, List.getElem?_eq_getElem hlt] at hcell
      simp only [Option.map_some] at hcell
      have hts := total_take ls hlt
      have hle := total_take_le ls (k + 1)
      have HS := Lib.hid hts
      rw [hts] at hle
      clear hts
      generalize (ls.take k).sum = t at *
      generalize ls[k] = n at *
      go_wp2_with fail
      go_roundg (ls.length - (k + 1))
      case measure => omega
      case rel => exact ⟨k + 1, by omega, by go_num, by omega, by rw [HS.out]; go_num, rfl⟩
    · obtain rfl : k = ls.length := by omega
      have HF := Lib.hid (show (ls.take ls.length).sum = ls.sum from by rw [List.take_length])
      go_wp2_with fail
      go_ret
      exact ⟨by rw [HT.out, ← HF.out]; rfl, h2⟩
theorem up_any (h : IsDisk w d D S) : Calls Try.prog 20 #[.pointer (some ⟨d, 0, none⟩)] w fun e w' => e = .returned (.bool (!D.down)) ∧ w = w' := by
  obtain ⟨T, v, fs, left, fv, h⟩ := h
  have HR := Lib.hid (ready_any w h.head h.good.cap0)
  clear h
  cases hdn : D.down
  · rw [hdn] at HR
    have e1 : readyR false = 0 := rfl
    rw [e1] at HR
    go_enter Try.func20, Try.ntmps20
    go_wp2_with fail
    refine HR.out.mono ?_
    rintro e w' ⟨rfl, rfl⟩
    go_wp2_with fail
    go_ret
    exact ⟨rfl, rfl⟩
  · rw [hdn] at HR
    have e1 : readyR true = 41 := rfl
    rw [e1] at HR
    go_enter Try.func20, Try.ntmps20
    go_wp2_with fail
    refine HR.out.mono ?_
    rintro e w' ⟨rfl, rfl⟩
    go_wp2_with fail
    go_ret
    exact ⟨rfl, rfl⟩
theorem starts_any (h : IsDisk w d D S) : Calls Try.prog 21 #[.pointer (some ⟨d, 0, none⟩)] w fun e w' => e = .returned (.int .i64 (D.starts : Int)) ∧ w = w' := by
  obtain ⟨T, v, fs, left, fv, h⟩ := h
  obtain ⟨q0, q1, q2, q3, q4, q5, qz⟩ := h.head.cells
  have HN := Lib.hid (none_no d D.cap w q0 h.good.cap0)
  clear h q0 q1 q2 q4 q5 qz
  go_enter Try.func21, Try.ntmps21
  go_wp2_with fail
  refine HN.out.mono ?_
  rintro e w' ⟨rfl, rfl⟩
  go_wp2_with fail
  go_ret
  exact ⟨rfl, rfl⟩

end
end Go.Proofs.Ytceldekbkffhpaa
