/-
  The walk of the law DiskCrash: it returns true and writes nothing that was there.
-/
import Derived.Test.YtdoajecpcepmiaaDPure
namespace Go.Proofs.Ytdoajecpcepmiaa.diskCrashW
open Go.RowKit
theorem acts_slice {w : World} {v : Value} {l : List ActV} (h : Acts w v l) : ∃ A c, v = .slice A l.length c ∧ l.length ≤ 9223372036854775807 := by
  obtain ⟨A, c, rfl, h1, h2, _⟩ := h
  unfold maxLen at h2
  exact ⟨A, c, rfl, by omega⟩
theorem actIn_below {w w' : World} {x : ActV} {keep : List Int} (h : ActIn w x keep) (hb : Below w.heap.size w w') : ActIn w' x keep := ⟨h.k, h.n, h.keep.old hb⟩
set_option maxRecDepth 100000 in
set_option maxHeartbeats 4000000 in
theorem walk (m : Nat) (v : Value) (l : List ActV) (kA : Option Addr) (kc : Nat) (keep : List Int) (w : World) (hm : m < 65536) (hl : Acts w v l) (hat : ∀ x ∈ l, ActAt w x) (hk : Ints w (.slice kA keep.length kc) keep) :
    Calls Try.prog 5 #[.int .u16 (m : Int), v, .slice kA keep.length kc] w fun e w' => e = .returned (.bool true) ∧ Below w.heap.size w w' := by
  obtain ⟨K, hK⟩ := acts_in hat
  have HG := Lib.hid (great_any hl)
  have HPL := Lib.hid (fun W (hb : Below w.heap.size w W) (h150 : l.length ≤ 150) => played_any m hm v l W (hl.below hb) K (fun x hx => actIn_below (hK x hx) hb) h150)
  have HK := Lib.hid hk
  have hkl : keep.length ≤ 9223372036854775807 := by
    obtain ⟨A', c', _, h1, h2, _⟩ := hk
    unfold maxLen at h2; omega
  obtain ⟨A, c, rfl, hll⟩ := acts_slice hl
  clear hat hK hk hl
  go_enter Try.func5, Try.ntmps5
  go_wp2_with fail
  refine HG.out.mono ?_
  rintro e w1 ⟨b, rfl, hsm, hb1⟩
  have HB1 := Lib.hid hb1
  clear hb1 HG
  cases b
  case true =>
    go_wp2_with fail
    go_ret
    exact ⟨rfl, HB1.out⟩
  case false =>
    have h150 : l.length ≤ 150 := (hsm rfl).2.2
    clear hsm
    by_cases hkk : keep.length ≤ 100
    case neg =>
      have t0 : decide ((100 : Int) < (keep.length : Int)) = true := decide_eq_true (by omega)
      go_wp2_with fail
      go_ret
      exact ⟨rfl, HB1.out⟩
    case pos =>
      have t0 : decide ((100 : Int) < (keep.length : Int)) = false := decide_eq_false (by omega)
      have HK1 := Lib.hid (HK.out.old HB1.out)
      clear HK hm
      go_wp2_with fail
      refine (HPL.out w1 HB1.out h150).mono ?_
      rintro e w2 ⟨d, rfl, H2⟩
      have HS : Hid ((Dsk.plays K (Dsk.new (1 + m % 5000)) l).starts ≤ 150) := by
        have := (Dsk.plays_mild K (Dsk.new (1 + m % 5000)) l).2
        have h0 : (Dsk.new (1 + m % 5000)).starts = 0 := rfl
        show _ ≤ 150
        omega
      clear HPL
      generalize Dsk.plays K (Dsk.new (1 + m % 5000)) l = D0 at *
      go_wp2_with fail
      refine (both_up H2 rfl).mono ?_
      rintro e w3 ⟨rfl, rfl⟩
      go_upto_if 32 with fail
      go_cut [] (fun wx => Hid (∃ D, Both w1 (AtDisk d D) AtNone [] wx ∧ D.down = false ∧ D.starts ≤ 151))
      case first =>
        cases hd : D0.down
        · have HD := Lib.hid hd
          clear hd
          go_wp2_with fail
          go_meet
          case rel => exact ⟨D0, H2.out, HD.out, by have := HS.out; omega⟩
        · have HR : Hid (Dsk.start D0 = ({ D0 with down := false, starts := D0.starts + 1 }, 0)) := by unfold Hid Dsk.start; rw [hd]; rfl
          clear hd
          go_wp2_with fail
          refine (both_start H2 (by have := HS.out; omega) HR.out).mono ?_
          rintro e w4 ⟨rfl, H4⟩
          go_wp2_with fail
          go_meet
          case rel => exact ⟨_, H4.out, rfl, by have := HS.out; show D0.starts + 1 ≤ 151; omega⟩
      case rest =>
        obtain ⟨D, hD, hdn, hst⟩ := hcut.out
        have H5 := Lib.hid hD
        have HDN := Lib.hid hdn
        have HST := Lib.hid hst
        have HGD := Lib.hid hD.good
        clear hcut hD hdn hst H2 HS
        have hfew := HGD.out.few
        go_wp2_with fail
        refine (both_names H5).mono ?_
        rintro e w6 ⟨A6, c6, rfl, H6⟩
        go_wp2_with fail
        refine (both_unsync H6).mono ?_
        rintro e w7 ⟨A7, c7, rfl, H7⟩
        go_wp2_with fail
        refine (both_bytes H7 HDN.out).mono ?_
        rintro e w8 ⟨A8, c8, rfl, H8⟩
        clear H5 H6 H7
        go_wp2_with fail
        refine (both_crash _ keep H8 HK1.out (Dsk.crash_up HDN.out keep)).mono ?_
        rintro e w9 ⟨rfl, H9⟩
        go_wp2_with fail
        refine (both_up (b := true) H9 rfl).mono ?_
        rintro e w10 ⟨rfl, rfl⟩
        go_wp2_with fail
        refine (both_crash _ keep H9 HK1.out (Dsk.crash_again D keep keep)).mono ?_
        rintro e w10 ⟨rfl, H10⟩
        go_wp2_with fail
        refine (both_start H10 (by have := HST.out; show D.starts ≤ _; omega) (Dsk.start_again D keep)).mono ?_
        rintro e w11 ⟨rfl, H11⟩
        clear H8 H9 H10
        have HLEN := Lib.hid (Dsk.crashed_len keep D.fs)
        have HFS : Hid ((Dsk.again D keep).fs = Dsk.crashed keep D.fs) := rfl
        go_wp2_with fail
        refine (both_bytes H11 rfl).mono ?_
        rintro e w12 ⟨A12, c12, rfl, H12⟩
        rw [show (Dsk.again D keep).fs.length = D.fs.length from HLEN.out] at H12 ⊢
        clear H11
        go_wp2_with fail
        refine (both_names H12).mono ?_
        rintro e w13 ⟨A13, c13, rfl, H13⟩
        rw [show (Dsk.again D keep).fs.length = D.fs.length from HLEN.out] at H13 ⊢
        clear H12
        go_wp2_with fail
        refine (both_same_texts H13 (Dsk.names D.fs) (List.mem_cons_self ..) (by simp) (by rw [show Dsk.names (Dsk.again D keep).fs = Dsk.names D.fs from Dsk.crashed_names keep D.fs]) rfl (by simp only [Dsk.names, List.length_map]; omega)).mono ?_
        rintro e w14 ⟨rfl, H14⟩
        clear H13
        have HNL : Hid ((Dsk.names D.fs).length = D.fs.length) := by simp [Hid, Dsk.names]
        go_wp2_with fail
        go_loopg [6, 13, 14] D.fs.length (fun kx s6 s13 s14 wr => ∃ i : Nat, i ≤ D.fs.length ∧ s13 = .int .i64 (i : Int) ∧ D.fs.length - i ≤ kx ∧ s6 = .bool false ∧ Hid (Still w14 wr))
        case atStart => exact ⟨0, Nat.zero_le _, rfl, by omega, rfl, Still.refl _⟩
        case round =>
          obtain ⟨i, hi, rfl, hkx, rfl, HW⟩ := hrel
          by_cases hlt : i < D.fs.length
          · have HB := Lib.hid (H14.out.still HW.out)
            have hfi := Dsk.crashed_at keep D.fs hlt
            have hsu := HGD.out.sure _ (List.getElem_mem hlt)
            have hln := HGD.out.room
            have hlt2 : D.fs[i].data.length ≤ Dsk.total D.fs := by
              have h1 : [D.fs[i]].Sublist D.fs := List.singleton_sublist.2 (List.getElem_mem hlt)
              have h2 := Dsk.total_sublist h1
              simpa [Dsk.total] using h2
            have hcp := HGD.out.cap1
            obtain ⟨b12, o12, rfl, y12⟩ := (HB.out.reads mem1).at_ (i := i) (x := flV (Dsk.crashF keep i D.fs[i])) (by rw [HFS.out, List.length_map, HLEN.out]; exact hlt) (by rw [HFS.out]; simp [List.getD, HLEN.out, hlt, hfi])
            obtain ⟨b8, o8, rfl, y8⟩ := (HB.out.reads mem2).at_ (i := i) (x := flV D.fs[i]) (by simp [hlt]) (by simp [List.getD, hlt])
            obtain ⟨b7, o7, rfl, y7⟩ := (HB.out.reads mem3).at_ (i := i) (x := .int .i64 ((D.fs[i].data.length - D.fs[i].sure : Nat) : Int)) (by simp [Dsk.unsynced, hlt]) (by simp [Dsk.unsynced, List.getD, hlt])
            clear hfi
            generalize D.fs[i] = f at *
            obtain ⟨fn, fd, sr⟩ := f
            simp only at hsu hlt2 y7
            rw [show flV (Dsk.crashF keep i ⟨fn, fd, sr⟩) = .string ((⟨fd.toArray⟩ : ByteArray).extract 0 (sr + Dsk.kept keep i (fd.length - sr))) from congrArg Value.string (take_text _ _)] at y12
            have hNle := Dsk.kept_le keep i (fd.length - sr)
            have HN : Hid (i < keep.length → max 0 (min (keep.getD i 0) ((fd.length - sr : Nat) : Int)) = (Dsk.kept keep i (fd.length - sr) : Int)) := fun h => by unfold Dsk.kept; rw [if_pos h]; omega
            have HN0 : Hid (¬ i < keep.length → Dsk.kept keep i (fd.length - sr) = 0) := fun h => by unfold Dsk.kept; rw [if_neg h]
            generalize Dsk.kept keep i (fd.length - sr) = N at *
            have hS : (⟨fd.toArray⟩ : ByteArray).size = fd.length := by simp [ByteArray.size]
            rw [show flV ⟨fn, fd, sr⟩ = .string (⟨fd.toArray⟩ : ByteArray) from rfl] at y8
            generalize (⟨fd.toArray⟩ : ByteArray) = S at *
            generalize fd.length = L at *
            have hlk : (i : Int) < (D.fs.length : Int) := by omega
            have h16 : (i : Int) < 16 := by omega
            go_upto_if 104 with fail
            go_cut [14] (fun s wx => s = .int .i64 (N : Int) ∧ Hid (Still wr wx))
            case first =>
              by_cases hik : i < keep.length
              · obtain ⟨bk, ok_, rfl, yk⟩ := (HK1.out.old (H14.out.still HW.out).bel).at_ hik
                have hx := HN.out hik
                have t1 : decide ((i : Int) < (keep.length : Int)) = true := decide_eq_true (by omega)
                have hik2 : (i : Int) < (keep.length : Int) := by omega
                generalize keep.getD i 0 = x at *
                generalize ((L - sr : Nat) : Int) = u at *
                clear HN HN0
                go_wp2_with fail
                go_quiet (fail)
                go_wp2_with fail
                go_meet
                case rel => exact ⟨rfl, (Still.refl _).drewN _⟩
              · have t1 : decide ((i : Int) < (keep.length : Int)) = false := decide_eq_false (by omega)
                have h0 := HN0.out hik
                subst h0
                go_wp2_with fail
                go_meet
                case rel => exact ⟨rfl, Still.refl _⟩
            case rest =>
              obtain ⟨rfl, HC⟩ := hcut
              clear HN HN0
              have y12 := (HC.out.cell ⟨b12, o12 + i, none⟩).trans y12
              have y8 := (HC.out.cell ⟨b8, o8 + i, none⟩).trans y8
              have y7 := (HC.out.cell ⟨b7, o7 + i, none⟩).trans y7
              subst hS
              have hcpi : S.size ≤ 1048576 := by omega
              have hw2 : IntKind.i64.wrap ((sr : Int) + (N : Int)) = ((sr + N : Nat) : Int) := by rw [IntWalk.i64_in _ (by omega)]; omega
              have hw1 : IntKind.i64.wrap ((S.size : Int) - ((S.size - sr : Nat) : Int)) = (sr : Int) := by rw [IntWalk.i64_in _ (by omega)]; omega
              have hP : sr + N ≤ S.size := by omega
              generalize sr + N = P at *
              generalize ((S.size - sr : Nat) : Int) = u at *
              have hPi : (P : Int) ≤ (S.size : Int) := by omega
              have hP0 : (0 : Int) ≤ (P : Int) := by omega
              clear hNle hsu hlt2 hln hcp HB
              go_wp2_with fail
              go_quiet (fail)
              go_wp2_with fail
              go_roundg (D.fs.length - (i + 1))
              case measure => omega
              case rel => exact ⟨i + 1, by omega, by go_num, by omega, rfl, fun B => (HW.out B).trans ((HC.out.drewN _) B)⟩
          · obtain rfl : i = D.fs.length := by omega
            have hlk : ¬ ((D.fs.length : Int) < (D.fs.length : Int)) := by omega
            have H15 := Lib.hid (H14.out.still HW.out)
            clear H14 HW
            go_wp2_with fail
            refine (both_unsync H15).mono ?_
            rintro e w16 ⟨A16, c16, rfl, H16⟩
            rw [show (Dsk.again D keep).fs.length = D.fs.length from HLEN.out] at H16 ⊢
            clear H15
            have HU : Hid (∀ i, i < D.fs.length → (Dsk.unsynced (Dsk.again D keep).fs).getD i 0 = 0) := fun i h => Dsk.unsynced_none (Dsk.crashed_all HGD.out.sure) (by rw [HLEN.out]; exact h)
            have HUL : Hid ((Dsk.unsynced (Dsk.again D keep).fs).length = D.fs.length) := by unfold Hid Dsk.unsynced; rw [List.length_map]; exact HLEN.out
            go_wp2_with fail
            go_loopg [6, 16] D.fs.length (fun kx s6 s16 wr => ∃ i : Nat, i ≤ D.fs.length ∧ s16 = .int .i64 (i : Int) ∧ D.fs.length - i ≤ kx ∧ s6 = .bool false ∧ Hid (Still w16 wr))
            case atStart => exact ⟨0, Nat.zero_le _, rfl, by omega, rfl, Still.refl _⟩
            case round =>
              obtain ⟨i, hi, rfl, hkx, rfl, HW⟩ := hrel
              by_cases hlt : i < D.fs.length
              · have HB := Lib.hid (H16.out.still HW.out)
                obtain ⟨b16, o16, rfl, y16⟩ := (HB.out.reads mem0).at_ (i := i) (x := .int .i64 0) (by rw [List.length_map, HUL.out]; exact hlt) (by
                  have h1 := HU.out i hlt
                  have h2 := HUL.out
                  simp only [List.getD, List.getElem?_map] at h1 ⊢
                  rw [List.getElem?_eq_getElem (by omega)] at h1 ⊢
                  simp at h1 ⊢
                  exact h1)
                have hlk : (i : Int) < (D.fs.length : Int) := by omega
                clear HB
                go_wp2_with fail
                go_roundg (D.fs.length - (i + 1))
                case measure => omega
                case rel => exact ⟨i + 1, by omega, by go_num, by omega, rfl, HW.out⟩
              · obtain rfl : i = D.fs.length := by omega
                have HN1 : Hid (Ints w1 (.slice none 0 0) []) := ⟨none, 0, rfl, Nat.le_refl _, Nat.zero_le _, fun _ => ⟨rfl, rfl⟩, fun h => by simp at h⟩
                have H17 := Lib.hid (H16.out.still HW.out)
                clear H16 HW HU HUL
                go_wp2_with fail
                refine (both_crash _ [] H17 HN1.out (Dsk.crash_up rfl [])).mono ?_
                rintro e w18 ⟨rfl, H18⟩
                go_wp2_with fail
                refine (both_start H18 (by have := HST.out; show D.starts + 1 ≤ _; omega) (Dsk.start_again (Dsk.again D keep) [])).mono ?_
                rintro e w19 ⟨rfl, H19⟩
                clear H17 H18
                have HFS2 : Hid ((Dsk.again (Dsk.again D keep) []).fs = (Dsk.again D keep).fs) := Dsk.again_again HGD.out.sure
                go_wp2_with fail
                refine (both_bytes H19 rfl).mono ?_
                rintro e w20 ⟨A20, c20, rfl, H20⟩
                rw [HFS2.out] at H20
                rw [show (Dsk.again (Dsk.again D keep) []).fs.length = D.fs.length from by rw [HFS2.out]; exact HLEN.out]
                rw [show (Dsk.again D keep).fs.length = D.fs.length from HLEN.out] at H20
                go_wp2_with fail
                refine (both_same_texts H20 ((Dsk.again D keep).fs.map fun f => (⟨f.data.toArray⟩ : ByteArray)) mem0 mem3 (flV_map _) (flV_map _) (by rw [List.length_map]; rw [show (Dsk.again D keep).fs.length = D.fs.length from HLEN.out]; omega)).mono ?_
                rintro e w21 ⟨rfl, H21⟩
                clear H19 H20
                go_wp2_with fail
                refine (both_works H21).mono ?_
                rintro e w22 ⟨rfl, H22⟩
                go_wp2_with fail
                go_ret
                exact ⟨rfl, HB1.out.trans (H22.out.bel.mono HB1.out.size)⟩
end Go.Proofs.Ytdoajecpcepmiaa.diskCrashW
