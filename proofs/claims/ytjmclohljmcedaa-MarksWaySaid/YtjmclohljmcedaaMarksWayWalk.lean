/-
  The walk of the law MarksWay: it returns true and writes nothing that was there.
-/
import Derived.Test.YtjmclohljmcedaaGetText
import Derived.Lib.QuietBelow
import Derived.BigQuiet
namespace Go.Proofs.Ytjmclohljmcedaa.marksWayW
open Go.RowKit Go.Sort
open Go.Lib (uvarint zigzag unzigzag uvarint_small uvarint_big)
theorem got_way {s : ByteArray} {j k : Nat} {n : Int} (h : got (bytesOf s) (j : Int) = some (n, k)) : mark n = (s.extract j k).toList := by
  have hb := got_bd h
  rw [bytes_len] at hb
  rw [got_nat (by rw [bytes_len]; omega)] at h
  rcases hd : dec ((bytesOf s).drop j) with _ | ⟨f, m⟩
  · rw [hd] at h; cases h
  · rw [hd] at h
    simp only [Option.map_some, Option.some.injEq, Prod.mk.injEq] at h
    obtain ⟨rfl, rfl⟩ := h
    obtain ⟨_, h2, _⟩ := dec_iff.1 hd
    rw [show mark (unzigzag f) = uvarint f from by unfold mark; rw [zig_unzig], h2, Lib.toList_data, Lib.extract_data, show j + m - j = m by omega]
    rfl
theorem text_way {s : ByteArray} {j p : Nat} {t : List UInt8} (h : gotText (bytesOf s) (j : Int) = some (t, p)) :
    ∃ (c k : Nat), got (bytesOf s) (j : Int) = some ((c : Int), k) ∧ p = k + c ∧ j < k ∧ p ≤ s.size ∧ t.length = c ∧ markText t = (s.extract j p).toList := by
  unfold gotText at h
  rcases hc : gotCount (bytesOf s) (j : Int) with _ | ⟨c, k⟩
  · rw [hc] at h; cases h
  · rw [hc] at h
    simp only [Option.map_some, Option.some.injEq, Prod.mk.injEq] at h
    obtain ⟨rfl, rfl⟩ := h
    obtain ⟨b1, b2, b3, hg⟩ := gotCount_bd hc
    rw [bytes_len] at b3
    have hl : (((bytesOf s).drop k).take c).length = c := by rw [List.length_take, List.length_drop, bytes_len]; omega
    refine ⟨c, k, hg, rfl, by omega, b3, hl, ?_⟩
    unfold markText
    rw [hl, got_way hg, Lib.toList_data, Lib.toList_data, Lib.extract_data, Lib.extract_data, show k + c - j = (k - j) + c by omega, List.take_add, List.drop_drop, show j + (k - j) = k by omega]
    rfl
theorem text_none {l : List UInt8} {a : Int} (h : got l a = none) : gotText l a = none := by
  unfold gotText gotCount; rw [h]; rfl
theorem bytes_mk (l : List UInt8) : bytesOf ⟨l.toArray⟩ = l := by simp [bytesOf]
set_option maxRecDepth 100000 in
set_option maxHeartbeats 1000000 in
theorem walk_none (a0 : ByteArray) (a1 : Int) (w : World) (w0 : a0.size ≤ 140737488351232) (hg : got (bytesOf a0) a1 = none) :
    Calls Try.prog 8 #[.string a0, .int .i64 a1] w fun e w' => e = .returned (.bool true) ∧ Below w.heap.size w w' := by
  have hs' : a0.size ≤ maxLen := by unfold maxLen; omega
  have HS := Lib.hid hs'
  have HT := Lib.hid (text_none hg)
  have HG := Lib.hid hg
  clear hg hs'
  go_enter Try.func8, Try.ntmps8
  go_wp2_with fail
  refine (get_any _ _ _ HS.out).mono ?_
  rintro e u1 ⟨rfl, he⟩
  rw [HG.out] at he
  simp only [getR] at he
  subst he
  go_wp2_with fail
  refine wp_region_quiet_below (by kernel_rfl) (by kernel_rfl) ?_
  repeat (go_big_quiet_step (fail))
  refine wpQuiet_nil ?_
  intro _ hw'
  obtain ⟨⟨dq, osq⟩, hw''⟩ := hw'
  subst hw''
  have hbq := below_regrown w dq osq
  generalize grow (redrawn w dq) osq = u2 at *
  go_wp2_with fail
  refine (getText_any _ _ _ w0).mono ?_
  rintro e u3 ⟨hb3, he⟩
  rw [HT.out] at he
  simp only [textR] at he
  subst he
  have h13 := hbq.trans (hb3.mono hbq.size)
  go_wp2_with fail
  refine wp_region_quiet_below (by kernel_rfl) (by kernel_rfl) ?_
  repeat (go_big_quiet_step (fail))
  refine wpQuiet_nil ?_
  intro _ hw'
  obtain ⟨⟨dq, osq⟩, hw''⟩ := hw'
  subst hw''
  have hbr := below_regrown u3 dq osq
  generalize grow (redrawn u3 dq) osq = u4 at *
  have h14 := h13.trans (hbr.mono h13.size)
  go_wp2_with fail
  refine (works_any _).mono ?_
  rintro e u5 ⟨rfl, hb5⟩
  go_wp2_with fail
  go_ret
  exact ⟨rfl, h14.trans (hb5.mono h14.size)⟩
set_option maxRecDepth 100000 in
set_option maxHeartbeats 1000000 in
theorem walk_some (a0 : ByteArray) (j k : Nat) (n : Int) (w : World) (w0 : a0.size ≤ 140737488351232) (hg : got (bytesOf a0) (j : Int) = some (n, k)) :
    Calls Try.prog 8 #[.string a0, .int .i64 (j : Int)] w fun e w' => e = .returned (.bool true) ∧ Below w.heap.size w w' := by
  have hs' : a0.size ≤ maxLen := by unfold maxLen; omega
  have HS := Lib.hid hs'
  clear hs'
  have hbd := got_bd hg
  rw [bytes_len] at hbd
  obtain ⟨b1, b2, b3, b4, b5⟩ := hbd
  have hf1 : decide ((j : Int) < 0) = false := by simp
  have hf2 : decide (k ≤ j) = false := decide_eq_false (by omega)
  have hf3 : decide (a0.size < k) = false := decide_eq_false (by omega)
  have hf4 : (!(mark n == (a0.extract j k).toList)) = false := by rw [got_way hg]; simp
  have HG := Lib.hid hg
  rcases ht : gotText (bytesOf a0) (j : Int) with _ | ⟨t, p⟩
  · have HT := Lib.hid ht
    clear hg ht
    go_enter Try.func8, Try.ntmps8
    go_wp2_with fail
    refine (get_any _ _ _ HS.out).mono ?_
    rintro e u1 ⟨rfl, he⟩
    rw [HG.out] at he
    simp only [getR] at he
    subst he
    go_wp2_with fail
    have cP : ∀ d os, Calls Try.prog 11 #[.int .i64 n] (grow (redrawn w d) os) fun e w'' => e = .returned (.string ⟨(mark n).toArray⟩) ∧ ∃ p : Regrown, w'' = grow (redrawn w p.d) p.os := fun d os => Calls.regrown_of ((put_any n _ b4 b5).mono fun _ _ h => h)
    refine wp_region_quiet_below (by kernel_rfl) (by kernel_rfl) ?_
    repeat (go_big_quiet_step (exact cP _ _))
    refine wpQuiet_nil ?_
    intro _ hw'
    obtain ⟨⟨dq, osq⟩, hw''⟩ := hw'
    subst hw''
    have hbq := below_regrown w dq osq
    generalize grow (redrawn w dq) osq = u2 at *
    clear cP
    go_wp2_with fail
    refine (getText_any _ _ _ w0).mono ?_
    rintro e u3 ⟨hb3, he⟩
    rw [HT.out] at he
    simp only [textR] at he
    subst he
    have h13 := hbq.trans (hb3.mono hbq.size)
    go_wp2_with fail
    refine wp_region_quiet_below (by kernel_rfl) (by kernel_rfl) ?_
    repeat (go_big_quiet_step (fail))
    refine wpQuiet_nil ?_
    intro _ hw'
    obtain ⟨⟨dq, osq⟩, hw''⟩ := hw'
    subst hw''
    have hbr := below_regrown u3 dq osq
    generalize grow (redrawn u3 dq) osq = u4 at *
    have h14 := h13.trans (hbr.mono h13.size)
    go_wp2_with fail
    refine (works_any _).mono ?_
    rintro e u5 ⟨rfl, hb5⟩
    go_wp2_with fail
    go_ret
    exact ⟨rfl, h14.trans (hb5.mono h14.size)⟩
  · have HT := Lib.hid ht
    obtain ⟨c, k', hgc, hp, t1, t2, t3, t4⟩ := text_way ht
    have e1 := hg.symm.trans hgc
    simp only [Option.some.injEq, Prod.mk.injEq] at e1
    obtain ⟨rfl, rfl⟩ := e1
    have hf5 : decide (p < k) = false := decide_eq_false (by omega)
    have hf6 : decide (a0.size < p) = false := decide_eq_false (by omega)
    have hf7 : (!(markText t == (a0.extract j p).toList)) = false := by rw [t4]; simp
    have htl : t.length ≤ a0.size := by omega
    have hjp : j ≤ p := by omega
    have hpi : (p : Int) ≤ (a0.size : Int) := by omega
    clear hg ht hgc t3 t4 hp
    go_enter Try.func8, Try.ntmps8
    go_wp2_with fail
    refine (get_any _ _ _ HS.out).mono ?_
    rintro e u1 ⟨rfl, he⟩
    rw [HG.out] at he
    simp only [getR] at he
    subst he
    go_wp2_with fail
    have cP : ∀ d os, Calls Try.prog 11 #[.int .i64 (c : Int)] (grow (redrawn w d) os) fun e w'' => e = .returned (.string ⟨(mark (c : Int)).toArray⟩) ∧ ∃ p : Regrown, w'' = grow (redrawn w p.d) p.os := fun d os => Calls.regrown_of ((put_any (c : Int) _ b4 b5).mono fun _ _ h => h)
    refine wp_region_quiet_below (by kernel_rfl) (by kernel_rfl) ?_
    repeat (go_big_quiet_step (exact cP _ _))
    refine wpQuiet_nil ?_
    intro _ hw'
    obtain ⟨⟨dq, osq⟩, hw''⟩ := hw'
    subst hw''
    have hbq := below_regrown w dq osq
    generalize grow (redrawn w dq) osq = u2 at *
    clear cP
    go_wp2_with fail
    refine (getText_any _ _ _ w0).mono ?_
    rintro e u3 ⟨hb3, he⟩
    rw [HT.out] at he
    simp only [textR] at he
    subst he
    have h13 := hbq.trans (hb3.mono hbq.size)
    go_wp2_with fail
    have cP : ∀ d os, Calls Try.prog 18 #[.string ⟨t.toArray⟩] (grow (redrawn u3 d) os) fun e w'' => e = .returned (.string ⟨(markText t).toArray⟩) ∧ ∃ p : Regrown, w'' = grow (redrawn u3 p.d) p.os := fun d os => Calls.regrown_of ((putText_any ⟨t.toArray⟩ _ (by simp [ByteArray.size_mk']; omega)).mono fun _ _ h => by rwa [bytes_mk] at h)
    refine wp_region_quiet_below (by kernel_rfl) (by kernel_rfl) ?_
    repeat (go_big_quiet_step (exact cP _ _))
    refine wpQuiet_nil ?_
    intro _ hw'
    obtain ⟨⟨dq, osq⟩, hw''⟩ := hw'
    subst hw''
    have hbr := below_regrown u3 dq osq
    generalize grow (redrawn u3 dq) osq = u4 at *
    clear cP
    have h14 := h13.trans (hbr.mono h13.size)
    go_wp2_with fail
    refine (works_any _).mono ?_
    rintro e u5 ⟨rfl, hb5⟩
    go_wp2_with fail
    go_ret
    exact ⟨rfl, h14.trans (hb5.mono h14.size)⟩
theorem walk (a0 : ByteArray) (a1 : Int) (w : World) (w0 : a0.size ≤ 140737488351232) (_w1 : (Lit.int .i64 a1).wf = true) :
    Calls Try.prog 8 #[.string a0, .int .i64 a1] w fun e w' => e = .returned (.bool true) ∧ Below w.heap.size w w' := by
  rcases hg : got (bytesOf a0) a1 with _ | ⟨n, k⟩
  · exact walk_none a0 a1 w w0 hg
  · obtain ⟨j, rfl⟩ := Int.eq_ofNat_of_zero_le (got_bd hg).1
    exact walk_some a0 j k n w w0 hg
end Go.Proofs.Ytjmclohljmcedaa.marksWayW
