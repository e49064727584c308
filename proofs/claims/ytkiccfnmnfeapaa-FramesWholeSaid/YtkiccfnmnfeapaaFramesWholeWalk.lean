/-
  The walk of the law FramesWhole: it returns true and writes nothing that was there.
-/
import Derived.Test.YtkiccfnmnfeapaaFWorks
namespace Go.Proofs.Ytkiccfnmnfeapaa.framesWholeW
open Go.RowKit
open Crc
/-- A row of the call's own, of so many texts, whichever they are. -/
def RowAny (w : World) (base : Nat) (A : Option Addr) (n c : Nat) : Prop := ∃ xs, w.ownsRow base 9 1 (.slice A n c) n xs
theorem RowAny.at_ {w : World} {base : Nat} {A : Option Addr} {n c k : Nat} (h : RowAny w base A n c) (hk : k < n) (z : Value) :
    ∃ g u, A = some ⟨g, 0, none⟩ ∧ base ≤ g ∧ w.cell? ⟨g, k, none⟩ = some u ∧ w.frozen? ⟨g, k, none⟩ = false ∧ RowAny (w.setCell ⟨g, k, none⟩ z) base A n c := by
  obtain ⟨xs, ho⟩ := h
  rcases ho.2 with ⟨h1, h2⟩ | ⟨g, cap, _, h1, h2, _⟩
  · omega
  · injection h1 with h1 _ h3
    subst h1 h3
    have hl := ho.1
    have hx : k < xs.length := by omega
    have hc := World.ownsRow.cellAt ho k (by omega)
    rw [List.getElem?_eq_getElem hx] at hc
    exact ⟨g, _, rfl, h2, hc, World.ownsRow.frozenAt ho k, _, (World.ownsRow.stored ho k z).1⟩
theorem row_other {w : World} {base : Nat} {v : Value} {ls : List (List UInt8)} {g j : Nat} {u : Value} (h : textRow w base v ls) (hg : g < base) : textRow (w.setCell ⟨g, j, none⟩ u) base v ls :=
  World.ownsRow.kept (row := some g) h ⟨rfl, rfl, rfl, by simp [World.setCell], fun k _ hk => Below.heap_setCell _ _ _ _ (fun e => hk (by simp [e]))⟩ (by
    rcases hv : v.ownBlock with _ | g'
    · exact .inl rfl
    · refine .inr fun e => ?_
      have := (World.ownsRow.lt h g' hv).1
      simp at e
      omega)
set_option maxRecDepth 100000 in
set_option maxHeartbeats 2000000 in
theorem walk (s : ByteArray) (w : World) (_hs : s.size ≤ maxLen) :
    Calls Try.prog 5 #[.string s] w fun e w' => e = .returned (.bool true) ∧ Below w.heap.size w w' := by
  by_cases h1 : 20000 < s.size
  · have t1 : decide (20000 < (s.size : Int)) = true := decide_eq_true (by omega)
    go_enter Try.func5, Try.ntmps5
    go_wp2_with fail
    go_ret
    exact ⟨rfl, Below.refl _ _⟩
  have t1 : decide (20000 < (s.size : Int)) = false := decide_eq_false (by omega)
  have GW := Lib.hid (fun X => whole_any s X (by omega))
  have GR := Lib.hid (fun X => rwhole_any s X (by omega))
  go_enter Try.func5, Try.ntmps5
  go_wp2_with fail
  refine (GW.out _).mono ?_
  rintro e w1 ⟨ps, m, v1, rfl, hw1, hr1, hb1⟩
  have HR1 := Lib.hid hr1
  have HW1 := Lib.hid hw1
  have hmany : ps.length ≤ 1000000 := by
    obtain ⟨hsm, rfl, y, hy, _⟩ := hw1
    have := (show Thus (bytesOf s) ps from ⟨hsm, y, hy⟩).many
    rw [bytes_len] at this
    omega
  clear hr1 hw1
  go_wp2_with fail
  refine (GR.out _).mono ?_
  rintro e w2 ⟨ps2, m2, v2, rfl, hw2, hr2, hb2⟩
  obtain ⟨rfl, rfl⟩ := whole_one hw2 HW1.out
  clear hw2
  have h2 := hb1.trans (hb2.mono hb1.size)
  have HLT := Lib.hid (World.ownsRow.lt HR1.out)
  have HR2 := Lib.hid hr2
  have HR1' := Lib.hid (HR1.out.keep hb2)
  clear hr2 HR1
  go_wp2_with fail
  refine (same_any _ _ ps2 _ _ _ (Texts.own HR1'.out) (Texts.own HR2.out) hmany).mono ?_
  rintro e w3 ⟨rfl, hs3⟩
  have h3 := h2.trans (hs3 _)
  have hr1 : textRow w3 w.heap.size v1 ps2 := hs3.owns HR1'.out
  have hr2 : textRow w3 w1.heap.size v2 ps2 := hs3.owns HR2.out
  have hsz := hb1.size
  clear hs3 HR1' HR2 hb1 hb2 h2
  obtain ⟨A1, c1, rfl⟩ : ∃ A1 c1, v1 = .slice A1 ps2.length c1 := by
    rcases hr1.2 with ⟨h1, h2⟩ | ⟨g, c, _, h1, _⟩
    · exact ⟨none, 0, by rw [h1, h2]⟩
    · exact ⟨_, c, h1⟩
  have HR1 : Hid (RowAny w3 w.heap.size A1 ps2.length c1) := ⟨_, hr1⟩
  have HR2 := Lib.hid hr2
  clear hr1 hr2
  go_wp2_with fail
  go_loopw [7] (fun i wr => ∃ k : Nat, k ≤ ps2.length ∧ i = .int .i64 k ∧ RowAny wr w.heap.size A1 ps2.length c1 ∧ textRow wr w1.heap.size v2 ps2 ∧ Below w.heap.size w wr) (fun i _ => ps2.length - (intOf i).toNat)
  case atStart => exact ⟨0, Nat.zero_le _, rfl, HR1.out, HR2.out, h3⟩
  case round =>
    obtain ⟨k, hk, rfl, hra, hrb, hbel⟩ := hrel
    have hszr := hbel.size
    by_cases hlt : k < ps2.length
    · obtain ⟨g, u, rfl, hg1, hcl, hfz, hra'⟩ := hra.at_ hlt (.string ⟨#[63]⟩)
      have hg2 := (HLT.out g rfl).2
      have hrb' := row_other (g := g) (j := k) (u := .string ⟨#[63]⟩) hrb hg2
      have hbel' := hbel.setCell (p := ⟨g, k, none⟩) (show w.heap.size ≤ g by omega) (.string ⟨#[63]⟩)
      have HRA := Lib.hid hra'
      have HRB := Lib.hid hrb'
      clear hra hra' hrb hrb'
      go_wp2_with fail
      go_roundw
      case rel => exact ⟨k + 1, by omega, by go_num, HRA.out, HRB.out, hbel'⟩
      case measure => simp [intOf]; omega
    · have HRB := Lib.hid hrb
      clear hra hrb
      go_wp2_with fail
      refine (GW.out _).mono ?_
      rintro e w4 ⟨ps4, m4, v4, rfl, hw4, hr4, hb4⟩
      obtain ⟨rfl, rfl⟩ := whole_one hw4 HW1.out
      clear hw4
      have h4 := hbel.trans (hb4.mono hszr)
      have HR4 := Lib.hid hr4
      have HR2 := Lib.hid (HRB.out.keep hb4)
      clear hr4
      go_wp2_with fail
      refine (same_any _ _ ps4 _ _ _ (Texts.own HR4.out) (Texts.own HR2.out) hmany).mono ?_
      rintro e w5 ⟨rfl, hs5⟩
      have h5 := h4.trans (hs5 _)
      go_wp2_with fail
      refine (works_any _).mono ?_
      rintro e w6 ⟨rfl, hb6⟩
      go_wp2_with fail
      go_ret
      exact ⟨rfl, h5.trans (hb6.mono h5.size)⟩
end Go.Proofs.Ytkiccfnmnfeapaa.framesWholeW
