/-
  The contract of Get of package marks: the int whose mark stands at a place.
-/
import Derived.Test.YtkdnhfeamibmdaaDoorGroups
import Derived.Lib.Strings
import Derived.Lib.IndexBytes
namespace Go.Proofs.YtkdnhfeamibmdaaDoor
open Go.RowKit
open Go.Lib (uvarint zigzag unzigzag uvarint_small uvarint_big)
def got (l : List UInt8) (a : Int) : Option (Int × Nat) := if 0 ≤ a ∧ a ≤ l.length then (dec (l.drop a.toNat)).map fun p => (unzigzag p.1, a.toNat + p.2) else none
def getR : Option (Int × Nat) → Value
  | some (n, k) => .tuple #[.int .i64 n, .int .i64 k, .bool true]
  | none => .tuple #[.int .i64 0, .int .i64 0, .bool false]
def GetPost (g : Option (Int × Nat)) (w : World) (e : Ending) (w' : World) : Prop := w = w' ∧ e = .returned (getR g)
theorem bytes_drop (s : ByteArray) (k : Nat) : bytesOf (s.extract k s.size) = (bytesOf s).drop k := by
  unfold bytesOf
  rw [Lib.extract_to_end]
theorem got_no {l : List UInt8} {a : Int} (h : ¬ (0 ≤ a ∧ a ≤ l.length)) : got l a = none := if_neg h
theorem got_nat {l : List UInt8} {k : Nat} (h : k ≤ l.length) : got l k = (dec (l.drop k)).map fun p => (unzigzag p.1, k + p.2) := by
  unfold got
  rw [if_pos ⟨by omega, by omega⟩, Int.toNat_natCast]
set_option maxRecDepth 100000 in
set_option maxHeartbeats 1000000 in
theorem get_any (s : ByteArray) (a : Int) (w : World) (hs : s.size ≤ maxLen) :
    Calls Tryd.prog 75 #[.string s, .int .i64 a] w (GetPost (got (bytesOf s) a) w) := by
  by_cases h0 : 0 ≤ a
  · by_cases h1 : a ≤ s.size
    · obtain ⟨k, rfl⟩ := Int.eq_ofNat_of_zero_le h0
      have hk : k ≤ s.size := by omega
      have hs' : (s.extract k s.size).size ≤ maxLen := by simp; omega
      have HG := Lib.hid (got_nat (l := bytesOf s) (k := k) hk)
      have HS := Lib.hid hs'
      clear hs'
      unfold maxLen at hs
      go_enter Tryd.func75, Tryd.ntmps75
      go_wp2_with fail
      refine (groups_any _ _ HS.out).mono ?_
      rintro e w' ⟨rfl, he⟩
      rw [bytes_drop] at he
      rcases hd : dec ((bytesOf s).drop k) with _ | ⟨f, m⟩
      · rw [hd] at he HG
        simp only at he
        subst he
        clear hd
        go_wp2
        go_ret3
        exact ⟨rfl, by rw [HG.out]; rfl⟩
      · have hp := dec_pos hd
        have hl : ((bytesOf s).drop k).length = s.size - k := by simp [bytesOf]
        rw [hl] at hp
        rw [hd] at he HG
        simp only at he
        subst he
        clear hd hl
        obtain ⟨hp1, hp2, hp3, hp4⟩ := hp
        go_wp2_with (go_at_call 83; refine (unfold_any _ _ (by omega)).mono ?_; rintro e w' ⟨rfl, rfl⟩)
        go_ret3
        exact ⟨rfl, by rw [HG.out]; rfl⟩
    · have HG := Lib.hid (got_no (l := bytesOf s) (a := a) (by rw [bytes_len]; omega))
      unfold maxLen at hs
      go_enter Tryd.func75, Tryd.ntmps75
      go_wp2
      go_ret3
      exact ⟨rfl, by rw [HG.out]; rfl⟩
  · have HG := Lib.hid (got_no (l := bytesOf s) (a := a) (by omega))
    unfold maxLen at hs
    go_enter Tryd.func75, Tryd.ntmps75
    go_wp2
    go_ret3
    exact ⟨rfl, by rw [HG.out]; rfl⟩
end Go.Proofs.YtkdnhfeamibmdaaDoor
