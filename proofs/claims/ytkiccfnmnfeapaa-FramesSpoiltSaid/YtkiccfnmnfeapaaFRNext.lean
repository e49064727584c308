/-
  The contract of Next of the document's answer.
-/
import Derived.Test.YtkiccfnmnfeapaaFNext
namespace Go.Proofs.Ytkiccfnmnfeapaa
open Go.RowKit
open Crc
open Go.Sort (grow)
theorem next_frame {l : List UInt8} {j c k : Nat} (h : bound l (j : Int) = some (c, k)) :
    frameOf ((l.drop (k + 4)).take c) = (l.drop j).take (k + 4 + c - j) ↔ (l.drop k).take 4 = checkNo (mark (c : Int)) ((l.drop (k + 4)).take c) := by
  obtain ⟨hg, h1, h2⟩ := bound_iff.1 h
  obtain ⟨_, x, y, rfl, hj, rfl⟩ := got_iff.1 hg
  obtain rfl : j = x.length := by omega
  simp only [List.length_append] at h2
  have d0 : (x ++ (mark (c : Int) ++ y)).drop (x.length + (mark (c : Int)).length) = y := by
    rw [← List.append_assoc, ← List.length_append, List.drop_left]
  rw [← List.drop_drop, d0, List.drop_left]
  have hl : ((y.drop 4).take c).length = c := by rw [List.length_take, List.length_drop]; omega
  have e : (mark (c : Int) ++ y).take (x.length + (mark (c : Int)).length + 4 + c - x.length) = mark (c : Int) ++ (y.take 4 ++ (y.drop 4).take c) := by
    rw [show x.length + (mark (c : Int)).length + 4 + c - x.length = (mark (c : Int)).length + (4 + c) by omega, List.take_length_add_append, List.take_add]
  rw [e]
  unfold frameOf
  rw [hl]
  constructor
  · intro h
    exact (List.append_cancel_right (List.append_cancel_left h)).symm
  · intro h
    rw [h]
set_option maxRecDepth 100000 in
set_option maxHeartbeats 1000000 in
theorem rnext_any (s : ByteArray) (a : Int) (w : World) (hs : s.size ≤ 140737488351232) :
    Calls Try.prog 14 #[.string s, .int .i64 a] w (NextPost (nextOf (bytesOf s) a) w) := by
  have hs' : s.size ≤ maxLen := by unfold maxLen; omega
  have HS := Lib.hid hs'
  clear hs'
  rcases hg : got (bytesOf s) a with _ | ⟨n, k⟩
  · have HC := Lib.hid (show nextOf (bytesOf s) a = none from by unfold nextOf bound; rw [hg])
    have HG := Lib.hid hg
    clear hg
    go_enter Try.func14, Try.ntmps14
    go_wp2_with fail
    refine (rget_any _ _ _ HS.out).mono ?_
    rintro e w1 ⟨hb1, he⟩
    rw [HG.out] at he
    simp only [getR] at he
    subst he
    go_wp2_with fail
    go_ret3
    exact ⟨hb1, by rw [HC.out]; rfl⟩
  · have hbd := got_range hg
    rw [bytes_len] at hbd
    obtain ⟨b1, b2, b3, b4, b5⟩ := hbd
    obtain ⟨j, rfl⟩ := Int.eq_ofNat_of_zero_le b1
    clear b1
    have HG := Lib.hid hg
    have HB := Lib.hid (show bound (bytesOf s) (j : Int) = if 0 ≤ n ∧ n ≤ 8192 ∧ (k : Int) + 4 + n ≤ (s.size : Int) then some (n.toNat, k) else none from by unfold bound; rw [hg]; rfl)
    by_cases hc : 0 ≤ n ∧ n ≤ 8192 ∧ (k : Int) + 4 + n ≤ (s.size : Int)
    · obtain ⟨h1, h2, h3⟩ := hc
      obtain ⟨c, rfl⟩ := Int.eq_ofNat_of_zero_le h1
      have hb := HB.out.trans (if_pos ⟨h1, h2, h3⟩)
      rw [Int.toNat_natCast] at hb
      have h3' : k + 4 + c ≤ s.size := by omega
      have h2' : c ≤ 8192 := by omega
      have q0 : decide ((c : Int) < 0) = false := decide_eq_false (by omega)
      have q1 : decide (8192 < (c : Int)) = false := decide_eq_false (by omega)
      have q2 : decide ((s.size : Int) - (k : Int) - 4 < (c : Int)) = false := decide_eq_false (by omega)
      have HN := Lib.hid (show nextOf (bytesOf s) (j : Int) = if ((bytesOf s).drop k).take 4 = checkNo (mark (c : Int)) (((bytesOf s).drop (k + 4)).take c) then some (((bytesOf s).drop (k + 4)).take c, k + 4 + c) else none from by unfold nextOf; rw [hb])
      have HNF := Lib.hid (next_frame hb)
      have hP : tx (s.extract (k + 4) (k + 4 + c)) = ((bytesOf s).drop (k + 4)).take c := by rw [ext_tx]; congr 1; omega
      have HQ := Lib.hid (show s.extract (k + 4) (k + 4 + c) = ⟨(((bytesOf s).drop (k + 4)).take c).toArray⟩ from by rw [ext_str]; congr 3; omega)
      have HK := Lib.hid (show (s.extract j (k + 4 + c)).toList = ((bytesOf s).drop j).take (k + 4 + c - j) from by rw [ext_list])
      have G := Lib.hid (fun X => rframe_any (s.extract (k + 4) (k + 4 + c)) X (ext_size s _ _ HS.out))
      have hR : frameR (tx (s.extract (k + 4) (k + 4 + c))) = .tuple #[.string ⟨(frameOf (((bytesOf s).drop (k + 4)).take c)).toArray⟩, .int .i64 0] := by
        rw [hP]; unfold frameR; rw [if_neg (by rw [List.length_take]; omega)]
      have HR := Lib.hid hR
      clear hb hg hP hR HB h1 h2 h3
      generalize frameOf (((bytesOf s).drop (k + 4)).take c) = F at *
      generalize checkNo (mark (c : Int)) (((bytesOf s).drop (k + 4)).take c) = C at *
      generalize ((bytesOf s).drop (k + 4)).take c = P at *
      generalize ((bytesOf s).drop k).take 4 = K at *
      by_cases heq : F = ((bytesOf s).drop j).take (k + 4 + c - j)
      · have hf : (!(F == (s.extract j (k + 4 + c)).toList)) = false := by rw [HK.out, heq]; simp
        have HC := Lib.hid (HN.out.trans (if_pos (HNF.out.1 heq)))
        clear heq HN HK HNF
        go_enter Try.func14, Try.ntmps14
        go_wp2_with fail
        refine (rget_any _ _ _ HS.out).mono ?_
        rintro e w1 ⟨hb1, he⟩
        rw [HG.out] at he
        simp only [getR] at he
        subst he
        go_wp2_with fail
        refine (G.out _).mono ?_
        rintro e w2 ⟨he, hb2⟩
        rw [HR.out] at he
        subst he
        go_wp2_with fail
        go_ret3
        exact ⟨hb1.trans (hb2.mono hb1.size), by rw [HC.out]; simp only [nextR]; rw [← HQ.out]; rfl⟩
      · have hf : (!(F == (s.extract j (k + 4 + c)).toList)) = true := by rw [HK.out]; simpa using heq
        have HC := Lib.hid (HN.out.trans (if_neg (fun h => heq (HNF.out.2 h))))
        clear heq HN HK HNF
        go_enter Try.func14, Try.ntmps14
        go_wp2_with fail
        refine (rget_any _ _ _ HS.out).mono ?_
        rintro e w1 ⟨hb1, he⟩
        rw [HG.out] at he
        simp only [getR] at he
        subst he
        go_wp2_with fail
        refine (G.out _).mono ?_
        rintro e w2 ⟨he, hb2⟩
        rw [HR.out] at he
        subst he
        go_wp2_with fail
        go_ret3
        exact ⟨hb1.trans (hb2.mono hb1.size), by rw [HC.out]; rfl⟩
    · have HC := Lib.hid (show nextOf (bytesOf s) (j : Int) = none from by unfold nextOf; rw [HB.out, if_neg hc])
      clear hg HB
      rcases (show n < 0 ∨ (0 ≤ n ∧ 8192 < n) ∨ (0 ≤ n ∧ n ≤ 8192 ∧ (s.size : Int) - (k : Int) - 4 < n) by omega) with h | h | h
      all_goals
        clear hc
        go_enter Try.func14, Try.ntmps14
        go_wp2_with fail
        refine (rget_any _ _ _ HS.out).mono ?_
        rintro e w1 ⟨hb1, he⟩
        rw [HG.out] at he
        simp only [getR] at he
        subst he
        go_wp2_with fail
        go_ret3
        exact ⟨hb1, by rw [HC.out]; rfl⟩
end Go.Proofs.Ytkiccfnmnfeapaa
