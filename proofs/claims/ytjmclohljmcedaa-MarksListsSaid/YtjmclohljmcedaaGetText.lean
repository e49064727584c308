/-
  The contracts of getCount and GetText of package marks, and of GetText of the document's answer.
-/
import Derived.Test.YtjmclohljmcedaaClone
namespace Go.Proofs.Ytjmclohljmcedaa
open Go.RowKit
open Go.Lib (uvarint zigzag unzigzag uvarint_small uvarint_big)
theorem got_bd {l : List UInt8} {a n : Int} {k : Nat} (h : got l a = some (n, k)) : 0 ≤ a ∧ a < k ∧ k ≤ l.length ∧ -9223372036854775808 ≤ n ∧ n ≤ 9223372036854775807 := by
  unfold got at h
  split at h
  · rename_i hc
    rcases hd : dec (l.drop a.toNat) with _ | ⟨f, m⟩
    · rw [hd] at h; cases h
    · rw [hd] at h
      simp only [Option.map_some, Option.some.injEq, Prod.mk.injEq] at h
      obtain ⟨rfl, rfl⟩ := h
      have hp := dec_pos hd
      rw [List.length_drop] at hp
      have := unzig_bd hp.2.2.2
      omega
  · cases h
def gotCount (l : List UInt8) (a : Int) : Option (Nat × Nat) :=
  match got l a with
  | some (n, k) => if 0 ≤ n ∧ n ≤ ((l.length - k : Nat) : Int) then some (n.toNat, k) else none
  | none => none
def cntR : Option (Nat × Nat) → Value
  | some (c, k) => .tuple #[.int .i64 c, .int .i64 k, .bool true]
  | none => .tuple #[.int .i64 0, .int .i64 0, .bool false]
def CntPost (g : Option (Nat × Nat)) (w : World) (e : Ending) (w' : World) : Prop := w = w' ∧ e = .returned (cntR g)
theorem gotCount_bd {l : List UInt8} {a : Int} {c k : Nat} (h : gotCount l a = some (c, k)) : 0 ≤ a ∧ a < k ∧ k + c ≤ l.length ∧ got l a = some ((c : Int), k) := by
  unfold gotCount at h
  rcases hg : got l a with _ | ⟨n, m⟩
  · rw [hg] at h; cases h
  · rw [hg] at h
    simp only at h
    split at h
    · rename_i hc
      simp only [Option.some.injEq, Prod.mk.injEq] at h
      obtain ⟨rfl, rfl⟩ := h
      have := got_bd hg
      exact ⟨this.1, this.2.1, by omega, by simp; omega⟩
    · cases h
set_option maxRecDepth 100000 in
set_option maxHeartbeats 1000000 in
theorem getCount_any (s : ByteArray) (a : Int) (w : World) (hs : s.size ≤ maxLen) :
    Calls Try.prog 29 #[.string s, .int .i64 a] w (CntPost (gotCount (bytesOf s) a) w) := by
  rcases hg : got (bytesOf s) a with _ | ⟨n, k⟩
  · have HC := Lib.hid (show gotCount (bytesOf s) a = none from by unfold gotCount; rw [hg])
    have HG := Lib.hid hg
    clear hg
    go_enter Try.func29, Try.ntmps29
    go_wp2_with fail
    refine (get_any _ _ _ hs).mono ?_
    rintro e w1 ⟨rfl, he⟩
    rw [HG.out] at he
    simp only [getR] at he
    subst he
    go_wp2_with fail
    go_ret3
    exact ⟨rfl, by rw [HC.out]; rfl⟩
  · have hbd := got_bd hg
    rw [bytes_len] at hbd
    obtain ⟨b1, b2, b3, b4, b5⟩ := hbd
    have HG := Lib.hid hg
    have HS := Lib.hid hs
    unfold maxLen at hs
    by_cases hn : 0 ≤ n
    · have hd0 : decide (n < 0) = false := decide_eq_false (by omega)
      by_cases hle : n ≤ ((s.size - k : Nat) : Int)
      · have HC := Lib.hid (show gotCount (bytesOf s) a = some (n.toNat, k) from by unfold gotCount; rw [hg]; simp only; rw [if_pos ⟨hn, by rw [bytes_len]; exact hle⟩])
        have hle2 : n ≤ (s.size : Int) - (k : Int) := by omega
        have hd1 : decide ((s.size : Int) - (k : Int) < n) = false := decide_eq_false (by omega)
        clear hg
        go_enter Try.func29, Try.ntmps29
        go_wp2_with fail
        refine (get_any _ _ _ HS.out).mono ?_
        rintro e w1 ⟨rfl, he⟩
        rw [HG.out] at he
        simp only [getR] at he
        subst he
        go_wp2_with fail
        go_ret3
        exact ⟨rfl, by rw [HC.out]; simp only [cntR]; rw [Int.toNat_of_nonneg hn]; rfl⟩
      · have HC := Lib.hid (show gotCount (bytesOf s) a = none from by unfold gotCount; rw [hg]; simp only; rw [if_neg (by rw [bytes_len]; omega)])
        have hle2 : (s.size : Int) - (k : Int) < n := by omega
        clear hg
        go_enter Try.func29, Try.ntmps29
        go_wp2_with fail
        refine (get_any _ _ _ HS.out).mono ?_
        rintro e w1 ⟨rfl, he⟩
        rw [HG.out] at he
        simp only [getR] at he
        subst he
        go_wp2_with fail
        go_ret3
        exact ⟨rfl, by rw [HC.out]; rfl⟩
    · have HC := Lib.hid (show gotCount (bytesOf s) a = none from by unfold gotCount; rw [hg]; simp only; rw [if_neg (by omega)])
      clear hg
      go_enter Try.func29, Try.ntmps29
      go_wp2_with fail
      refine (get_any _ _ _ HS.out).mono ?_
      rintro e w1 ⟨rfl, he⟩
      rw [HG.out] at he
      simp only [getR] at he
      subst he
      go_wp2_with fail
      go_ret3
      exact ⟨rfl, by rw [HC.out]; rfl⟩
def gotText (l : List UInt8) (a : Int) : Option (List UInt8 × Nat) := (gotCount l a).map fun p => ((l.drop p.2).take p.1, p.2 + p.1)
def textR : Option (List UInt8 × Nat) → Value
  | some (t, k) => .tuple #[.string ⟨t.toArray⟩, .int .i64 k, .bool true]
  | none => .tuple #[.string ⟨#[]⟩, .int .i64 0, .bool false]
def TextPost (g : Option (List UInt8 × Nat)) (w : World) (e : Ending) (w' : World) : Prop := Below w.heap.size w w' ∧ e = .returned (textR g)
theorem extract_take (s : ByteArray) (k c : Nat) : s.extract k (k + c) = ⟨(((bytesOf s).drop k).take c).toArray⟩ := by
  apply ByteArray.ext
  apply Array.toList_inj.1
  rw [Lib.extract_data, show k + c - k = c by omega]
  rfl
set_option maxRecDepth 100000 in
set_option maxHeartbeats 1000000 in
theorem getText_any (s : ByteArray) (a : Int) (w : World) (hs : s.size ≤ 140737488351232) :
    Calls Try.prog 16 #[.string s, .int .i64 a] w (TextPost (gotText (bytesOf s) a) w) := by
  have hs' : s.size ≤ maxLen := by unfold maxLen; omega
  have HS := Lib.hid hs'
  clear hs'
  rcases hg : gotCount (bytesOf s) a with _ | ⟨c, k⟩
  · have HT := Lib.hid (show gotText (bytesOf s) a = none from by unfold gotText; rw [hg]; rfl)
    have HG := Lib.hid hg
    clear hg
    go_enter Try.func16, Try.ntmps16
    go_wp2_with fail
    refine (getCount_any _ _ _ HS.out).mono ?_
    rintro e w1 ⟨rfl, he⟩
    rw [HG.out] at he
    simp only [cntR] at he
    subst he
    go_wp2_with fail
    go_ret3
    exact ⟨Below.refl _ _, by rw [HT.out]; rfl⟩
  · have HT := Lib.hid (show gotText (bytesOf s) a = some (((bytesOf s).drop k).take c, k + c) from by unfold gotText; rw [hg]; rfl)
    have hbd := gotCount_bd hg
    rw [bytes_len] at hbd
    obtain ⟨b1, b2, b3, _⟩ := hbd
    have HG := Lib.hid hg
    clear hg
    go_enter Try.func16, Try.ntmps16
    go_wp2_with fail
    refine (getCount_any _ _ _ HS.out).mono ?_
    rintro e w1 ⟨rfl, he⟩
    rw [HG.out] at he
    simp only [cntR] at he
    subst he
    go_wp2_with fail
    refine (clone_any _ _ (by simp; omega)).mono ?_
    rintro e w2 ⟨rfl, hb⟩
    go_wp2_with fail
    go_ret3
    exact ⟨hb, by rw [HT.out]; simp only [textR]; rw [← extract_take]; rfl⟩
set_option maxRecDepth 100000 in
set_option maxHeartbeats 1000000 in
theorem rgetText_any (s : ByteArray) (a : Int) (w : World) (hs : s.size ≤ 140737488351232) :
    Calls Try.prog 17 #[.string s, .int .i64 a] w (TextPost (gotText (bytesOf s) a) w) := by
  have hs' : s.size ≤ maxLen := by unfold maxLen; omega
  have HS := Lib.hid hs'
  clear hs'
  rcases hg : got (bytesOf s) a with _ | ⟨n, k⟩
  · have HC := Lib.hid (show gotText (bytesOf s) a = none from by unfold gotText gotCount; rw [hg]; rfl)
    have HG := Lib.hid hg
    clear hg
    go_enter Try.func17, Try.ntmps17
    go_wp2_with fail
    refine (rget_any _ _ _ HS.out).mono ?_
    rintro e w1 ⟨hb, he⟩
    rw [HG.out] at he
    simp only [getR] at he
    subst he
    go_wp2_with fail
    go_ret3
    exact ⟨hb, by rw [HC.out]; rfl⟩
  · have hbd := got_bd hg
    rw [bytes_len] at hbd
    obtain ⟨b1, b2, b3, b4, b5⟩ := hbd
    have HG := Lib.hid hg
    by_cases hn : 0 ≤ n
    · have hd0 : decide (n < 0) = false := decide_eq_false (by omega)
      by_cases hle : n ≤ ((s.size - k : Nat) : Int)
      · have HC := Lib.hid (show gotText (bytesOf s) a = some (((bytesOf s).drop k).take n.toNat, k + n.toNat) from by unfold gotText gotCount; rw [hg]; simp only; rw [if_pos ⟨hn, by rw [bytes_len]; exact hle⟩]; rfl)
        obtain ⟨c, rfl⟩ := Int.eq_ofNat_of_zero_le hn
        have hle2 : (c : Int) ≤ (s.size : Int) - (k : Int) := by omega
        have hd1 : decide ((s.size : Int) - (k : Int) < (c : Int)) = false := decide_eq_false (by omega)
        clear hg
        go_enter Try.func17, Try.ntmps17
        go_wp2_with fail
        refine (rget_any _ _ _ HS.out).mono ?_
        rintro e w1 ⟨hb, he⟩
        rw [HG.out] at he
        simp only [getR] at he
        subst he
        go_wp2_with fail
        go_ret3
        exact ⟨hb, by rw [HC.out]; simp only [textR, Int.toNat_natCast]; rw [← extract_take]; rfl⟩
      · have HC := Lib.hid (show gotText (bytesOf s) a = none from by unfold gotText gotCount; rw [hg]; simp only; rw [if_neg (by rw [bytes_len]; omega)]; rfl)
        have hle2 : (s.size : Int) - (k : Int) < n := by omega
        clear hg
        go_enter Try.func17, Try.ntmps17
        go_wp2_with fail
        refine (rget_any _ _ _ HS.out).mono ?_
        rintro e w1 ⟨hb, he⟩
        rw [HG.out] at he
        simp only [getR] at he
        subst he
        go_wp2_with fail
        go_ret3
        exact ⟨hb, by rw [HC.out]; rfl⟩
    · have HC := Lib.hid (show gotText (bytesOf s) a = none from by unfold gotText gotCount; rw [hg]; simp only; rw [if_neg (by omega)]; rfl)
      clear hg
      go_enter Try.func17, Try.ntmps17
      go_wp2_with fail
      refine (rget_any _ _ _ HS.out).mono ?_
      rintro e w1 ⟨hb, he⟩
      rw [HG.out] at he
      simp only [getR] at he
      subst he
      go_wp2_with fail
      go_ret3
      exact ⟨hb, by rw [HC.out]; rfl⟩
end Go.Proofs.Ytjmclohljmcedaa
