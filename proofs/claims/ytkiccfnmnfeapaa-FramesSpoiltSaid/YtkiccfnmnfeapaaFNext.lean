/-
  Contracts of bounds and Next of package frames.
-/
import Derived.Test.YtkiccfnmnfeapaaFFrame
import Derived.Lib.QuietBelow
import Derived.BigQuiet
namespace Go.Proofs.Ytkiccfnmnfeapaa
open Go.RowKit
open Crc
open Go.Sort (grow)
theorem results_tmp4 {fn : Func} {t u v x : Tmp} (h : fn.results = #[.tmp t, .tmp u, .tmp v, .tmp x]) (tmps : Array Value) (P : Program) (w : World) :
    (results fn tmps).run P w = .ok (.tuple #[tmps.getD t undef, tmps.getD u undef, tmps.getD v undef, tmps.getD x undef]) w := by
  simp [results, h]
theorem got_range {l : List UInt8} {a n : Int} {k : Nat} (h : got l a = some (n, k)) : 0 ≤ a ∧ a < k ∧ k ≤ l.length ∧ -9223372036854775808 ≤ n ∧ n ≤ 9223372036854775807 := by
  obtain ⟨⟨h0, h1⟩, x, y, rfl, rfl, rfl⟩ := got_iff.1 h
  have := mark_bd h0 h1
  simp only [List.length_append]
  omega
def boundR : Option (Nat × Nat) → Value
  | some (c, k) => .tuple #[.int .i64 k, .int .i64 ((k : Int) + 4), .int .i64 ((k : Int) + 4 + c), .bool true]
  | none => .tuple #[.int .i64 0, .int .i64 0, .int .i64 0, .bool false]
def BoundPost (g : Option (Nat × Nat)) (w : World) (e : Ending) (w' : World) : Prop := w = w' ∧ e = .returned (boundR g)
set_option maxRecDepth 100000 in
set_option maxHeartbeats 1000000 in
theorem bounds_any (s : ByteArray) (a : Int) (w : World) (hs : s.size ≤ maxLen) :
    Calls Try.prog 23 #[.string s, .int .i64 a] w (BoundPost (bound (bytesOf s) a) w) := by
  rcases hg : got (bytesOf s) a with _ | ⟨n, k⟩
  · have HC := Lib.hid (show bound (bytesOf s) a = none from by unfold bound; rw [hg])
    have HG := Lib.hid hg
    clear hg
    go_enter Try.func23, Try.ntmps23
    go_wp2_with fail
    refine (get_any _ _ _ hs).mono ?_
    rintro e w1 ⟨rfl, he⟩
    rw [HG.out] at he
    simp only [getR] at he
    subst he
    go_wp2_with fail
    (try simp only [Exit.inBlock, Exit.then]); refine bodyPost_ret (results_tmp4 rfl _ _ _) rfl ?_
    exact ⟨rfl, by rw [HC.out]; rfl⟩
  · have hbd := got_range hg
    rw [bytes_len] at hbd
    obtain ⟨b1, b2, b3, b4, b5⟩ := hbd
    have HG := Lib.hid hg
    have HS := Lib.hid hs
    unfold maxLen at hs
    have HB := Lib.hid (show bound (bytesOf s) a = if 0 ≤ n ∧ n ≤ 8192 ∧ (k : Int) + 4 + n ≤ (s.size : Int) then some (n.toNat, k) else none from by unfold bound; rw [hg]; rfl)
    clear hg
    by_cases h1 : 0 ≤ n
    · have q1 : decide (n < 0) = false := decide_eq_false (by omega)
      by_cases h2 : n ≤ 8192
      · have q2 : decide (8192 < n) = false := decide_eq_false (by omega)
        by_cases h3 : (k : Int) + 4 + n ≤ (s.size : Int)
        · have q3 : decide ((s.size : Int) - (k : Int) - 4 < n) = false := decide_eq_false (by omega)
          have HC := Lib.hid (HB.out.trans (if_pos ⟨h1, h2, h3⟩))
          clear HB
          go_enter Try.func23, Try.ntmps23
          go_wp2_with fail
          refine (get_any _ _ _ HS.out).mono ?_
          rintro e w1 ⟨rfl, he⟩
          rw [HG.out] at he
          simp only [getR] at he
          subst he
          go_wp2_with fail
          (try simp only [Exit.inBlock, Exit.then]); refine bodyPost_ret (results_tmp4 rfl _ _ _) rfl ?_
          exact ⟨rfl, by rw [HC.out]; simp only [boundR]; rw [Int.toNat_of_nonneg h1]; rfl⟩
        · have q3 : decide ((s.size : Int) - (k : Int) - 4 < n) = true := decide_eq_true (by omega)
          have HC := Lib.hid (HB.out.trans (if_neg (by omega)))
          clear HB
          go_enter Try.func23, Try.ntmps23
          go_wp2_with fail
          refine (get_any _ _ _ HS.out).mono ?_
          rintro e w1 ⟨rfl, he⟩
          rw [HG.out] at he
          simp only [getR] at he
          subst he
          go_wp2_with fail
          (try simp only [Exit.inBlock, Exit.then]); refine bodyPost_ret (results_tmp4 rfl _ _ _) rfl ?_
          exact ⟨rfl, by rw [HC.out]; rfl⟩
      · have q2 : decide (8192 < n) = true := decide_eq_true (by omega)
        have HC := Lib.hid (HB.out.trans (if_neg (by omega)))
        clear HB
        go_enter Try.func23, Try.ntmps23
        go_wp2_with fail
        refine (get_any _ _ _ HS.out).mono ?_
        rintro e w1 ⟨rfl, he⟩
        rw [HG.out] at he
        simp only [getR] at he
        subst he
        go_wp2_with fail
        (try simp only [Exit.inBlock, Exit.then]); refine bodyPost_ret (results_tmp4 rfl _ _ _) rfl ?_
        exact ⟨rfl, by rw [HC.out]; rfl⟩
    · have q1 : decide (n < 0) = true := decide_eq_true (by omega)
      have HC := Lib.hid (HB.out.trans (if_neg (by omega)))
      clear HB
      go_enter Try.func23, Try.ntmps23
      go_wp2_with fail
      refine (get_any _ _ _ HS.out).mono ?_
      rintro e w1 ⟨rfl, he⟩
      rw [HG.out] at he
      simp only [getR] at he
      subst he
      go_wp2_with fail
      (try simp only [Exit.inBlock, Exit.then]); refine bodyPost_ret (results_tmp4 rfl _ _ _) rfl ?_
      exact ⟨rfl, by rw [HC.out]; rfl⟩
/-- What Next answers. -/
def nextR : Option (List UInt8 × Nat) → Value
  | some (p, q) => .tuple #[.string ⟨p.toArray⟩, .int .i64 q, .bool true]
  | none => .tuple #[.string ⟨#[]⟩, .int .i64 0, .bool false]
def NextPost (g : Option (List UInt8 × Nat)) (w : World) (e : Ending) (w' : World) : Prop := Below w.heap.size w w' ∧ e = .returned (nextR g)
theorem ext_list (s : ByteArray) (i j : Nat) : (s.extract i j).toList = ((bytesOf s).drop i).take (j - i) := by
  rw [Lib.toList_data, Lib.extract_data]; rfl
theorem ext_tx (s : ByteArray) (i j : Nat) : tx (s.extract i j) = ((bytesOf s).drop i).take (j - i) := by
  unfold tx; rw [Lib.extract_data]; rfl
theorem ext_str (s : ByteArray) (i j : Nat) : s.extract i j = ⟨(((bytesOf s).drop i).take (j - i)).toArray⟩ := by rw [str_of (s.extract i j), ext_tx]
theorem ext_size (s : ByteArray) (i j : Nat) (h : s.size ≤ maxLen) : (s.extract i j).size ≤ maxLen := by rw [ByteArray.size_extract]; omega
theorem got_mark {l : List UInt8} {j k : Nat} {n : Int} (h : got l (j : Int) = some (n, k)) : (l.drop j).take (k - j) = mark n := by
  obtain ⟨_, x, y, rfl, h1, rfl⟩ := got_iff.1 h
  obtain rfl : j = x.length := by omega
  rw [List.drop_left, show x.length + (mark n).length - x.length = (mark n).length by omega, List.take_left]
set_option maxRecDepth 100000 in
set_option maxHeartbeats 1000000 in
theorem next_any (s : ByteArray) (a : Int) (w : World) (hs : s.size ≤ 140737488351232) :
    Calls Try.prog 13 #[.string s, .int .i64 a] w (NextPost (nextOf (bytesOf s) a) w) := by
  have hs' : s.size ≤ maxLen := by unfold maxLen; omega
  have HS := Lib.hid hs'
  clear hs'
  rcases hb : bound (bytesOf s) a with _ | ⟨c, k⟩
  · have HC := Lib.hid (show nextOf (bytesOf s) a = none from by unfold nextOf; rw [hb])
    have HB := Lib.hid hb
    clear hb
    go_enter Try.func13, Try.ntmps13
    go_wp2_with fail
    refine (bounds_any _ _ _ HS.out).mono ?_
    rintro e w1 ⟨rfl, he⟩
    rw [HB.out] at he
    simp only [boundR] at he
    subst he
    go_wp2_with fail
    refine wp_region_quiet_below (by kernel_rfl) (by kernel_rfl) ?_
    repeat (go_big_quiet_step (fail))
    refine wpQuiet_nil ?_
    intro _ hw'
    obtain ⟨⟨dq, osq⟩, hw''⟩ := hw'
    subst hw''
    have hbq := below_regrown w dq osq
    generalize grow (redrawn w dq) osq = u2 at *
    go_wp2_with fail
    go_ret3
    exact ⟨hbq, by rw [HC.out]; rfl⟩
  · obtain ⟨hg, h1, h2⟩ := bound_iff.1 hb
    have hbd := got_range hg
    rw [bytes_len] at hbd h2
    obtain ⟨b1, b2, b3, _, _⟩ := hbd
    obtain ⟨j, rfl⟩ := Int.eq_ofNat_of_zero_le b1
    have hjk : j ≤ k := by omega
    have HN := Lib.hid (show nextOf (bytesOf s) (j : Int) = if ((bytesOf s).drop k).take 4 = checkNo (mark (c : Int)) (((bytesOf s).drop (k + 4)).take c) then some (((bytesOf s).drop (k + 4)).take c, k + 4 + c) else none from by unfold nextOf; rw [hb])
    have HB := Lib.hid hb
    have HM := Lib.hid (show tx (s.extract j k) = mark (c : Int) from by rw [ext_tx]; exact got_mark hg)
    have HP := Lib.hid (show tx (s.extract (k + 4) (k + 4 + c)) = ((bytesOf s).drop (k + 4)).take c from by rw [ext_tx]; congr 1; omega)
    have HK := Lib.hid (show (s.extract k (k + 4)).toList = ((bytesOf s).drop k).take 4 from by rw [ext_list]; congr 1; omega)
    have HQ := Lib.hid (show s.extract (k + 4) (k + 4 + c) = ⟨(((bytesOf s).drop (k + 4)).take c).toArray⟩ from by rw [ext_str]; congr 3; omega)
    have G := Lib.hid (fun X => checkOf_any (s.extract j k) (s.extract (k + 4) (k + 4 + c)) X (ext_size s _ _ HS.out) (ext_size s _ _ HS.out))
    rw [HM.out, HP.out] at G
    have G2 := Lib.hid (fun X => clone_any (s.extract (k + 4) (k + 4 + c)) X (by rw [ByteArray.size_extract]; omega))
    clear hb hg HM HP b1
    generalize checkNo (mark (c : Int)) (((bytesOf s).drop (k + 4)).take c) = C at *
    generalize ((bytesOf s).drop (k + 4)).take c = P at *
    generalize ((bytesOf s).drop k).take 4 = K at *
    by_cases heq : K = C
    · have hf : (!((s.extract k (k + 4)).toList == C)) = false := by rw [HK.out, heq]; simp
      have HC := Lib.hid (HN.out.trans (if_pos heq))
      clear heq HN HK
      go_enter Try.func13, Try.ntmps13
      go_wp2_with fail
      refine (bounds_any _ _ _ HS.out).mono ?_
      rintro e w1 ⟨rfl, he⟩
      rw [HB.out] at he
      simp only [boundR] at he
      subst he
      go_wp2_with fail
      have cP : ∀ d os, Calls Try.prog 20 #[.string (s.extract j k), .string (s.extract (k + 4) (k + 4 + c))] (grow (redrawn w d) os) fun e w'' => e = .returned (.string ⟨C.toArray⟩) ∧ ∃ p : Regrown, w'' = grow (redrawn w p.d) p.os := fun d os => Calls.regrown_of ((G.out _).mono fun _ _ h => h)
      refine wp_region_quiet_below (by kernel_rfl) (by kernel_rfl) ?_
      repeat (go_big_quiet_step (exact cP _ _))
      refine wpQuiet_nil ?_
      intro _ hw'
      obtain ⟨⟨dq, osq⟩, hw''⟩ := hw'
      subst hw''
      have hbq := below_regrown w dq osq
      generalize grow (redrawn w dq) osq = u2 at *
      clear cP
      go_wp2_with fail
      refine (G2.out _).mono ?_
      rintro e w3 ⟨rfl, hb3⟩
      go_wp2_with fail
      go_ret3
      exact ⟨hbq.trans (hb3.mono hbq.size), by rw [HC.out]; simp only [nextR]; rw [← HQ.out]; rfl⟩
    · have hf : (!((s.extract k (k + 4)).toList == C)) = true := by rw [HK.out]; simpa using heq
      have HC := Lib.hid (HN.out.trans (if_neg heq))
      clear heq HN HK G2
      go_enter Try.func13, Try.ntmps13
      go_wp2_with fail
      refine (bounds_any _ _ _ HS.out).mono ?_
      rintro e w1 ⟨rfl, he⟩
      rw [HB.out] at he
      simp only [boundR] at he
      subst he
      go_wp2_with fail
      have cP : ∀ d os, Calls Try.prog 20 #[.string (s.extract j k), .string (s.extract (k + 4) (k + 4 + c))] (grow (redrawn w d) os) fun e w'' => e = .returned (.string ⟨C.toArray⟩) ∧ ∃ p : Regrown, w'' = grow (redrawn w p.d) p.os := fun d os => Calls.regrown_of ((G.out _).mono fun _ _ h => h)
      refine wp_region_quiet_below (by kernel_rfl) (by kernel_rfl) ?_
      repeat (go_big_quiet_step (exact cP _ _))
      refine wpQuiet_nil ?_
      intro _ hw'
      obtain ⟨⟨dq, osq⟩, hw''⟩ := hw'
      subst hw''
      have hbq := below_regrown w dq osq
      generalize grow (redrawn w dq) osq = u2 at *
      clear cP
      go_wp2_with fail
      go_ret3
      exact ⟨hbq, by rw [HC.out]; rfl⟩
end Go.Proofs.Ytkiccfnmnfeapaa
