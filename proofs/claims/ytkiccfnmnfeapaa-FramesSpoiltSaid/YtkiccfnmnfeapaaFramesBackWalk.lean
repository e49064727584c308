/-
  The walk of the law FramesBack: it returns true and writes nothing that was there.
-/
import Derived.Test.YtkiccfnmnfeapaaFFramed
namespace Go.Proofs.Ytkiccfnmnfeapaa.framesBackW
open Go.RowKit
open Crc
theorem next_k {ls : List (List UInt8)} (hg : Good ls) {k : Nat} (hk : k < ls.length) : nextOf (flat ls) ((endAt ls k : Nat) : Int) = some (ls.getD k [], endAt ls (k + 1)) := by
  have e : flat ls = flat (ls.take k) ++ (frameOf (ls.getD k []) ++ flat (ls.drop (k + 1))) := by
    rw [← List.append_assoc, ← flat_step hk, ← flat_split]
  unfold endAt
  rw [flat_step hk, List.length_append]
  conv => lhs; rw [e]
  exact next_at (by have := good_at hg k; omega) _
theorem next_end (ls : List (List UInt8)) : nextOf (flat ls) ((endAt ls ls.length : Nat) : Int) = none := by
  have := next_none (x := flat ls) (y := []) next_nil
  rwa [List.append_nil, ← endAt_all] at this
theorem numRow.at_ {w : World} {base : Nat} {v : Value} {l : List Int} (h : numRow w base v l) {k : Nat} (hk : k < l.length) : ∃ g cap, v = .slice (some ⟨g, 0, none⟩) l.length cap ∧ l.length ≤ cap ∧ w.cell? ⟨g, k, none⟩ = some (.int .i64 (l.getD k 0)) := by
  rcases h.2 with ⟨rfl, h0⟩ | ⟨g, cap, cur, rfl, h2, h3, h4, h5, h6, h7⟩
  · omega
  · refine ⟨g, cap, rfl, h4, ?_⟩
    rw [World.ownsRow.cellAt h k (by omega)]
    simp [hk]
theorem ends_at (ls : List (List UInt8)) {k n : Nat} (h : k < n) : (endsK ls n).getD k 0 = ((endAt ls (k + 1) : Nat) : Int) := by
  simp [endsK, List.getD, h]
set_option maxRecDepth 100000 in
set_option maxHeartbeats 2000000 in
theorem walk_ls (v : Value) (ls : List (List UInt8)) (w : World) (hv : Texts w w.heap.size v ls) (hm : ∀ p ∈ ls, p.length ≤ maxLen) :
    Calls Try.prog 6 #[v] w fun e w' => e = .returned (.bool true) ∧ Below w.heap.size w w' := by
  have HV := Lib.hid hv
  have HM := Lib.hid hm
  clear hv hm
  go_enter Try.func6, Try.ntmps6
  go_wp2_with fail
  refine (framed_any v ls w HV.out HM.out).mono ?_
  rintro e w1 ⟨hb1, ⟨_, rfl⟩ | ⟨hg, vE, rfl, hE⟩⟩
  · go_wp2_with fail
    refine (works_any _).mono ?_
    rintro e w2 ⟨rfl, hb2⟩
    go_wp2_with fail
    go_ret
    exact ⟨rfl, hb1.trans (hb2.mono hb1.size)⟩
  · have HG := Lib.hid hg
    have HE := Lib.hid hE
    have h40 := hg.1
    have hend := good_end hg (Nat.le_refl _)
    rw [endAt_all] at hend
    have hwa := whole_all hg.small
    have GW := Lib.hid (fun X => whole_any ⟨(flat ls).toArray⟩ X (by show (flat ls).toArray.size ≤ _; rw [List.size_toArray]; omega))
    have GN := Lib.hid (fun a X => next_any ⟨(flat ls).toArray⟩ a X (by show (flat ls).toArray.size ≤ _; rw [List.size_toArray]; omega))
    rw [bytes_of] at GW GN
    have HW := Lib.hid hwa
    have HNK := Lib.hid (fun k (hk : k < ls.length) => next_k hg hk)
    have HNE := Lib.hid (next_end ls)
    have HEB := Lib.hid (fun k (hk : k ≤ ls.length) => good_end hg hk)
    have HEA := Lib.hid (endAt_all ls)
    clear hg hE hwa
    generalize flat ls = L at *
    go_wp2_with fail
    refine (GW.out _).mono ?_
    rintro e w2 ⟨ps, m, v2, rfl, hw2, hr2, hb2⟩
    obtain ⟨rfl, rfl⟩ := whole_one hw2 HW.out
    clear hw2
    have h2 := hb1.trans (hb2.mono hb1.size)
    have HR2 := Lib.hid hr2
    clear hr2
    go_wp2_with fail
    refine (same_any _ _ ps _ _ _ (Texts.own HR2.out) (HV.out.keep h2 (Nat.le_refl _)) (by omega)).mono ?_
    rintro e w3 ⟨rfl, hs3⟩
    have h3 := h2.trans (hs3 _)
    have hE3 := hs3.owns (HE.out.keep hb2)
    have HE3 := Lib.hid (show numRow w3 w.heap.size vE (endsK ps ps.length) from hE3)
    have HV3 := Lib.hid (HV.out.keep h3 h3.size)
    clear hs3 HR2 hb1 hb2 h2 hE3 HE HV
    obtain ⟨A, c, rfl, hc, hcell⟩ := HV3.out
    have HC := Lib.hid hcell
    clear hcell HV3
    obtain ⟨AE, cE, rfl, hcE⟩ : ∃ AE cE, vE = .slice AE ps.length cE ∧ ps.length ≤ cE := by
      have hE := HE3.out
      rcases hE.2 with ⟨h1, h2⟩ | ⟨g, c, _, h1, _, _, h4, _⟩
      · rw [endsK_len] at h2; exact ⟨none, 0, by rw [h1, h2], by omega⟩
      · rw [endsK_len] at h1 h4; exact ⟨_, c, h1, h4⟩
    go_wp2_with fail
    go_loopw [8, 9] (fun at_ i wr => ∃ k : Nat, k ≤ ps.length ∧ i = .int .i64 k ∧ at_ = .int .i64 (endAt ps k : Nat) ∧ Below w3.heap.size w3 wr) (fun _ i _ => ps.length - (intOf i).toNat)
    case atStart => exact ⟨0, Nat.zero_le _, rfl, rfl, Below.refl _ _⟩
    case round =>
      obtain ⟨k, hk, rfl, rfl, hbel⟩ := hrel
      have hsz := hbel.size
      by_cases hlt : k < ps.length
      · obtain ⟨b, off, rfl, hblt, hc'⟩ := HC.out (by omega)
        obtain ⟨gE, cE', hvE, hcE', hcellE⟩ := numRow.at_ HE3.out (k := k) (by rw [endsK_len]; exact hlt)
        injection hvE with hvE hl1 hl2
        clear hl1 hl2 hcE'
        subst hvE
        rw [ends_at ps hlt] at hcellE
        have hgE : gE < w3.heap.size := World.block_lt_of_cell? w3 _ hcellE
        have g := GN.out (endAt ps k : Nat)
        rw [HNK.out k hlt] at g
        have G := Lib.hid g
        have hck0 := hc' k hlt
        unfold textV at hck0
        clear g hc'
        generalize endAt ps k = E1 at *
        generalize hE2 : endAt ps (k + 1) = E2 at *
        have HE2 := Lib.hid hE2
        clear hE2
        generalize ps.getD k [] = t at *
        go_wp2_with fail
        refine (G.out _).mono ?_
        rintro e w5 ⟨hb5, he⟩
        simp only [nextR] at he
        subst he
        have hb6 := hbel.trans (hb5.mono hsz)
        have hck := (hb6.cell (p := ⟨b, off + k, none⟩) hblt).trans hck0
        have hcE5 := (hb6.cell (p := ⟨gE, k, none⟩) hgE).trans hcellE
        clear hck0 hcellE hbel hb5
        go_wp2_with fail
        go_roundw
        case rel => exact ⟨k + 1, by omega, by go_num, by rw [HE2.out], hb6⟩
        case measure => simp [intOf]; omega
      · obtain rfl : k = ps.length := by omega
        have g := GN.out (endAt ps ps.length : Nat)
        rw [HNE.out] at g
        have G := Lib.hid g
        clear g
        generalize endAt ps ps.length = E1 at *
        go_wp2_with fail
        refine (G.out _).mono ?_
        rintro e w5 ⟨hb5, he⟩
        simp only [nextR] at he
        subst he
        have hb6 := hbel.trans (hb5.mono hsz)
        go_wp2_with fail
        refine (works_any _).mono ?_
        rintro e w7 ⟨rfl, hb7⟩
        have hb8 := hb6.trans (hb7.mono hb6.size)
        go_wp2_with fail
        go_ret
        exact ⟨rfl, h3.trans (hb8.mono h3.size)⟩
theorem walk (a0 : Option Addr) (len0 cap0 : Nat) (z0 : List ByteArray) (w : World) (w0 : IsTexts w a0 len0 cap0 z0) :
    Calls Try.prog 6 #[.slice a0 len0 cap0] w fun e w' => e = .returned (.bool true) ∧ Below w.heap.size w w' := by
  obtain ⟨h1, h2, h3, _⟩ := w0.texts
  exact walk_ls _ _ w h2 h3
end Go.Proofs.Ytkiccfnmnfeapaa.framesBackW
