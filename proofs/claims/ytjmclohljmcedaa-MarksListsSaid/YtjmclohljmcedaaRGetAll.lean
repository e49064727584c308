/-
  The contracts of GetAll of the document's answer and of SameInts.
-/
import Derived.Test.YtjmclohljmcedaaGetAll
import Derived.BigQuiet
namespace Go.Proofs.Ytjmclohljmcedaa
open Go.RowKit
open Go.Lib (uvarint zigzag unzigzag uvarint_small uvarint_big)
theorem row_snoc {w : World} {base : Nat} {v : Value} {ns : List Int} {n : Int} (h : w.ownsRow base 3 1 v (ns.length + 1) (ns.map (Value.int .i64) ++ [.int .i64 n])) : intRow w base v (ns ++ [n]) := by
  unfold intRow
  rw [List.length_append, List.map_append]
  exact h
theorem rall_yes {s : ByteArray} {a n : Int} {k : Nat} (hg : got (bytesOf s) a = some (n, k)) (hn : 0 ≤ n) (hle : n ≤ ((s.size - k : Nat) : Int)) : gotAll (bytesOf s) a = gotN (bytesOf s) n.toNat k := by
  unfold gotAll gotCount
  rw [hg]
  simp only
  rw [if_pos ⟨hn, by rw [bytes_len]; exact hle⟩]
theorem rall_no {s : ByteArray} {a n : Int} {k : Nat} (hg : got (bytesOf s) a = some (n, k)) (h : ¬ (0 ≤ n ∧ n ≤ ((s.size - k : Nat) : Int))) : gotAll (bytesOf s) a = none := by
  unfold gotAll gotCount
  rw [hg]
  simp only
  rw [if_neg (by rw [bytes_len]; exact h)]
set_option maxRecDepth 100000 in
set_option maxHeartbeats 1000000 in
theorem rgetAll_yes (s : ByteArray) (a : Int) (c k : Nat) (w : World) (hs : s.size ≤ 1000000) (hg : got (bytesOf s) a = some ((c : Int), k)) (hle : k + c ≤ s.size) :
    Calls Try.prog 24 #[.string s, .int .i64 a] w (AllPost (gotAll (bytesOf s) a) w) := by
  have hs' : s.size ≤ maxLen := by unfold maxLen; omega
  have HS := Lib.hid hs'
  clear hs'
  obtain ⟨i0, hi, hz0, hz1, hz2⟩ := info_parts Try.info_int
  have HT := Lib.hid (rall_yes hg (by omega) (by omega))
  rw [Int.toNat_natCast] at HT
  have HG := Lib.hid hg
  clear hg
  have hd0 : decide ((c : Int) < 0) = false := by simp
  have hd1 : decide ((s.size : Int) - (k : Int) < (c : Int)) = false := decide_eq_false (by omega)
  go_enter Try.func24, Try.ntmps24
  go_wp2_with fail
  refine (rget_any _ _ _ HS.out).mono ?_
  rintro e w1 ⟨hb, he⟩
  rw [HG.out] at he
  simp only [getR] at he
  subst he
  go_wp2_with fail
  go_loopw [8, 10, 11] (fun nx v i wr => ∃ (ns : List Int) (p : Nat), ns.length ≤ c ∧ p ≤ s.size ∧ nx = .int .i64 p ∧ i = .int .i64 ns.length ∧ intRow wr w.heap.size v ns ∧ Come (bytesOf s) c k ns p ∧ Below w.heap.size w wr) (fun _ _ i _ => c - (intOf i).toNat)
  case atStart => exact ⟨[], k, Nat.zero_le _, by omega, rfl, rfl, World.ownsRow_nil _ _ _ _, Come.start _ _ _, hb⟩
  case round =>
    obtain ⟨ns, p, hn, hp, rfl, rfl, hown, hcome, hbel⟩ := hrel
    have hsz := hbel.size
    by_cases hlt : ns.length < c
    · rcases hg : got (bytesOf s) (p : Int) with _ | ⟨n, q⟩
      · have HD := Lib.hid (hcome.stop hlt hg)
        have HG := Lib.hid hg
        clear hg hcome hown
        go_wp2_with fail
        refine (rget_any _ _ _ HS.out).mono ?_
        rintro e w2 ⟨hb2, he⟩
        rw [HG.out] at he
        simp only [getR] at he
        subst he
        go_wp2_with fail
        go_ret3
        rw [HT.out, HD.out]
        exact ⟨hbel.trans (hb2.mono hsz), rfl⟩
      · have hq := got_bd hg
        rw [bytes_len] at hq
        have HN := Lib.hid (hcome.next hlt hg)
        have HG := Lib.hid hg
        have HO := Lib.hid hown
        clear hg hcome hown
        go_wp2_with fail
        refine (rget_any _ _ _ HS.out).mono ?_
        rintro e w2 ⟨hb2, he⟩
        rw [HG.out] at he
        simp only [getR] at he
        subst he
        have hb3 := hbel.trans (hb2.mono hsz)
        have hsz2 := hb3.size
        have hown2 : w2.ownsRow w.heap.size 3 1 u10 ns.length (ns.map (Value.int .i64)) := World.ownsRow.kept (row := none) HO.out ⟨hb2.os, hb2.tape, hb2.output, hb2.size, fun k hk _ => hb2.block k hk⟩ (by
          rcases hv : u10.ownBlock with _ | g
          · exact .inl rfl
          · exact .inr (by simp))
        go_wp2_with (at_builtin; refine wpList_append_own _ rfl _ _ 32 rfl w.heap.size 3 i0 (.int .i64 0) 1 8 Try.underlying32 hi hz0 hz1 hz2 rfl (by decide) _ _ _ rfl (World.ownsRow.alloc hown2 _) ⟨w2.heap.size, 0, none⟩ 1 1 [.int .i64 n] rfl rfl (cell_one_new _ _ _) (fun x hx => by simp at hx; subst hx; rfl) (by unfold maxLen; omega) (by omega) (by simp; omega) ?_; intro v' w3 hown' hgrow3 hnil3)
        have hb4 := (hb3.alloc hsz2 (.cells #[.int .i64 n] 3)).grown hgrow3 (by simp; omega) (fun q hq => (World.ownsRow.lt hown2 q hq).1)
        go_roundw
        case rel => exact ⟨ns ++ [n], q, by simp; omega, by omega, rfl, by simp, row_snoc hown', HN.out, hb4⟩
        case measure => simp [intOf]; omega
    · have he : ns.length = c := by omega
      have HD := Lib.hid (hcome.done he)
      have HO := Lib.hid hown
      clear he hcome hown
      go_wp2
      go_ret3
      rw [HT.out, HD.out]
      exact ⟨hbel, _, rfl, HO.out⟩
set_option maxRecDepth 100000 in
set_option maxHeartbeats 1000000 in
theorem rgetAll_any (s : ByteArray) (a : Int) (w : World) (hs : s.size ≤ 1000000) :
    Calls Try.prog 24 #[.string s, .int .i64 a] w (AllPost (gotAll (bytesOf s) a) w) := by
  have hs' : s.size ≤ maxLen := by unfold maxLen; omega
  have HS := Lib.hid hs'
  clear hs'
  rcases hg : got (bytesOf s) a with _ | ⟨n, k⟩
  · have HC := Lib.hid (show gotAll (bytesOf s) a = none from by unfold gotAll gotCount; rw [hg])
    have HG := Lib.hid hg
    clear hg
    go_enter Try.func24, Try.ntmps24
    go_wp2_with fail
    refine (rget_any _ _ _ HS.out).mono ?_
    rintro e w1 ⟨hb, he⟩
    rw [HG.out] at he
    simp only [getR] at he
    subst he
    go_wp2_with fail
    go_ret3
    rw [HC.out]
    exact ⟨hb, rfl⟩
  · have hbd := got_bd hg
    rw [bytes_len] at hbd
    obtain ⟨b1, b2, b3, b4, b5⟩ := hbd
    by_cases hn : 0 ≤ n
    · by_cases hle : n ≤ ((s.size - k : Nat) : Int)
      · obtain ⟨c, rfl⟩ := Int.eq_ofNat_of_zero_le hn
        exact rgetAll_yes s a c k w hs hg (by omega)
      · have HC := Lib.hid (rall_no hg (by omega))
        have hd0 : decide (n < 0) = false := decide_eq_false (by omega)
        have hle2 : (s.size : Int) - (k : Int) < n := by omega
        have HG := Lib.hid hg
        clear hg
        go_enter Try.func24, Try.ntmps24
        go_wp2_with fail
        refine (rget_any _ _ _ HS.out).mono ?_
        rintro e w1 ⟨hb, he⟩
        rw [HG.out] at he
        simp only [getR] at he
        subst he
        go_wp2_with fail
        go_ret3
        rw [HC.out]
        exact ⟨hb, rfl⟩
    · have HC := Lib.hid (rall_no hg (by omega))
      have HG := Lib.hid hg
      clear hg
      go_enter Try.func24, Try.ntmps24
      go_wp2_with fail
      refine (rget_any _ _ _ HS.out).mono ?_
      rintro e w1 ⟨hb, he⟩
      rw [HG.out] at he
      simp only [getR] at he
      subst he
      go_wp2_with fail
      go_ret3
      rw [HC.out]
      exact ⟨hb, rfl⟩
end Go.Proofs.Ytjmclohljmcedaa
