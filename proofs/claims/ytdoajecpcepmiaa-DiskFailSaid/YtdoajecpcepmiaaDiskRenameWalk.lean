/-
  The walk of the law DiskRename: it returns true and writes nothing that was there.
-/
import Derived.Test.YtdoajecpcepmiaaDiskCrashWalk
namespace Go.Proofs.Ytdoajecpcepmiaa.diskRenameW
open Go.RowKit
open diskCrashW (acts_slice actIn_below)
set_option maxRecDepth 100000 in
set_option maxHeartbeats 4000000 in
theorem walk (v : Value) (l : List ActV) (src dst : ByteArray) (w : World) (hl : Acts w v l) (hat : ∀ x ∈ l, ActAt w x) (hs : src.size ≤ maxLen) (hd : dst.size ≤ maxLen) :
    Calls Try.prog 8 #[v, .string src, .string dst] w fun e w' => e = .returned (.bool true) ∧ Below w.heap.size w w' := by
  obtain ⟨K, hK⟩ := acts_in hat
  have HG := Lib.hid (great_any hl)
  have HPL := Lib.hid (fun W (hb : Below w.heap.size w W) (h150 : l.length ≤ 150) => played_any 4000 (by decide) v l W (hl.below hb) K (fun x hx => actIn_below (hK x hx) hb) h150)
  obtain ⟨A, c, rfl, hll⟩ := acts_slice hl
  clear hat hK hl
  unfold maxLen at hs hd
  go_enter Try.func8, Try.ntmps8
  go_wp2_with fail
  refine HG.out.mono ?_
  rintro e w1 ⟨b, rfl, hsm, hb1⟩
  have HB1 := Lib.hid hb1
  clear hb1 HG
  cases b
  case true =>
    go_wp2_with fail
    go_ret
    exact ⟨rfl, HB1.out⟩
  case false =>
    have h150 : l.length ≤ 150 := (hsm rfl).2.2
    clear hsm
    by_cases hkk : src.size ≤ 1000
    case neg =>
      have t0 : decide ((1000 : Int) < (src.size : Int)) = true := decide_eq_true (by omega)
      go_wp2_with fail
      go_ret
      exact ⟨rfl, HB1.out⟩
    case pos =>
    by_cases hkk2 : dst.size ≤ 1000
    case neg =>
      have t0 : decide ((1000 : Int) < (src.size : Int)) = false := decide_eq_false (by omega)
      have t1 : decide ((1000 : Int) < (dst.size : Int)) = true := decide_eq_true (by omega)
      go_wp2_with fail
      go_ret
      exact ⟨rfl, HB1.out⟩
    case pos =>
      have t0 : decide ((1000 : Int) < (src.size : Int)) = false := decide_eq_false (by omega)
      have t1 : decide ((1000 : Int) < (dst.size : Int)) = false := decide_eq_false (by omega)
      clear hs hd
      go_wp2_with fail
      refine (HPL.out w1 HB1.out h150).mono ?_
      rintro e w2 ⟨d, rfl, H2⟩
      have HS : Hid ((Dsk.plays K (Dsk.new (1 + 4000 % 5000)) l).starts ≤ 150) := by
        have := (Dsk.plays_mild K (Dsk.new (1 + 4000 % 5000)) l).2
        have h0 : (Dsk.new (1 + 4000 % 5000)).starts = 0 := rfl
        show _ ≤ 150
        omega
      have HC : Hid (Dsk.Calm (Dsk.plays K (Dsk.new (1 + 4000 % 5000)) l)) := Dsk.calm_plays K (fun h => by cases h) l
      clear HPL
      generalize Dsk.plays K (Dsk.new (1 + 4000 % 5000)) l = D0 at *
      go_wp2_with fail
      refine (both_make_up H2 (by have := HS.out; omega)).mono ?_
      rintro e w3 ⟨rfl, H3⟩
      have HU := Lib.hid (Dsk.upD_is HC.out)
      clear H2 HC
      generalize Dsk.upD D0 = D1 at *
      obtain ⟨⟨D, r⟩, HR⟩ : ∃ R, Hid (Dsk.append D1 src ⟨#[122]⟩ = R) := ⟨_, rfl⟩
      have HU2 : Hid (D.down = false ∧ D.fail = none) := by
        have h := Dsk.append_up HU.out.1 HU.out.2.1 src ⟨#[122]⟩
        rw [HR.out] at h
        exact h
      go_wp2_with fail
      refine (Both.call H3 HR.out fun _ h1 _ => append_any _ _ h1).mono ?_
      rintro e w4 ⟨rfl, H4⟩
      clear H3 HR HU
      have HDN := Lib.hid HU2.out.1
      have HGD := Lib.hid H4.out.good
      have hfew := HGD.out.few
      go_wp2_with fail
      refine (both_names H4).mono ?_
      rintro e w6 ⟨A6, c6, rfl, H6⟩
      go_wp2_with fail
      refine (both_unsync H6).mono ?_
      rintro e w7 ⟨A7, c7, rfl, H7⟩
      go_wp2_with fail
      refine (both_bytes H7 HDN.out).mono ?_
      rintro e w8 ⟨A8, c8, rfl, H8⟩
      clear H4 H6 H7
      obtain ⟨⟨D', e'⟩, HRN⟩ : ∃ R, Hid (Dsk.rename D src dst = R) := ⟨_, rfl⟩
      have HRC : Hid ((src ∉ Dsk.names D.fs ∧ (D', e') = (D, 4)) ∨ (src ∈ Dsk.names D.fs ∧ Dsk.isNm dst = false ∧ (D', e') = (D, 2)) ∨ (src ∈ Dsk.names D.fs ∧ Dsk.isNm dst = true ∧ (D', e') = ({ D with fs := Dsk.renameF D.fs (Dsk.place (Dsk.names D.fs) src) src dst }, 0))) := by
        have h := Dsk.rename_cases HU2.out.1 HU2.out.2 src dst
        rw [HRN.out] at h
        exact h
      have HDN2 : Hid (D'.down = false) := by
        rcases HRC.out with ⟨_, h⟩ | ⟨_, _, h⟩ | ⟨_, _, h⟩ <;> (injection h with h1 h2; rw [h1]; exact HDN.out)
      go_wp2_with fail
      refine (Both.call H8 HRN.out fun _ h1 _ => rename_any _ _ h1).mono ?_
      rintro e w9 ⟨rfl, H9⟩
      have hfew2 := H9.out.good.few
      clear H8 HRN
      go_wp2_with fail
      refine (both_bytes H9 HDN2.out).mono ?_
      rintro e w10 ⟨A10, c10, rfl, H10⟩
      clear H9
      obtain ⟨⟨sd, sb⟩, HL⟩ : ∃ R, Hid (Dsk.look D.fs src = R) := ⟨_, rfl⟩
      have hf2 : D.fs.length ≤ 1000000 := by omega
      go_wp2_with fail
      refine (both_old H10 D.fs HGD.out.rise src mem3 mem1 hf2 HL.out).mono ?_
      rintro e w11 ⟨rfl, H11⟩
      clear H10 hf2
      rcases HRC.out with ⟨h1, h2⟩ | ⟨h1, h2, h3⟩ | ⟨h1, h2, h3⟩
      · injection h2 with e1 e2
        subst e1 e2
        have h4 := HL.out
        rw [Dsk.look_not h1] at h4
        injection h4 with e1 e2
        subst e1 e2
        clear h1 HL HRC
        go_wp2_with fail
        refine (both_names H11).mono ?_
        rintro e w12 ⟨A12, c12, rfl, H12⟩
        go_wp2_with fail
        refine (both_same_texts H12 (Dsk.names D'.fs) mem0 mem4 rfl rfl (by simp only [Dsk.names, List.length_map]; omega)).mono ?_
        rintro e w13 ⟨rfl, H13⟩
        go_wp2_with fail
        refine (both_same_texts H13 (D'.fs.map fun f => (⟨f.data.toArray⟩ : ByteArray)) mem1 mem2 (flV_map _) (flV_map _) (by simp only [List.length_map]; omega)).mono ?_
        rintro e w14 ⟨rfl, H14⟩
        clear H11 H12 H13
        go_wp2_with fail
        refine (both_works H14).mono ?_
        rintro e w15 ⟨rfl, H15⟩
        go_wp2_with fail
        go_ret
        exact ⟨rfl, HB1.out.trans (H15.out.bel.mono HB1.out.size)⟩
      · injection h3 with e1 e2
        subst e1 e2
        have hsb : sb = true := by
          obtain ⟨f, hf, hfn⟩ := List.mem_map.1 h1
          have h4 := Dsk.look_mem HGD.out.rise hf
          rw [hfn, HL.out] at h4
          injection h4
        subst hsb
        have HNM := Lib.hid h2
        clear h1 h2 HL HRC
        have hgo : (dst.size = 0) ∨ (16 < dst.size) := by
          have h := HNM.out
          unfold Dsk.isNm at h
          simp at h
          rcases Nat.eq_zero_or_pos dst.size with h0 | h0
          · exact .inl h0
          · exact .inr (h h0)
        have hf2 : D'.fs.length ≤ 1000000 := by omega
        rcases hgo with hz | hz
        · have q1 : dst.toList = [] := by
            rw [Lib.toList_data]
            exact List.length_eq_zero_iff.1 hz
          clear hz
          go_wp2_with fail
          refine (both_names H11).mono ?_
          rintro e w12 ⟨A12, c12, rfl, H12⟩
          go_wp2_with fail
          refine (both_same_texts H12 (Dsk.names D'.fs) mem0 mem4 rfl rfl (by simp only [Dsk.names, List.length_map]; exact hf2)).mono ?_
          rintro e w13 ⟨rfl, H13⟩
          go_wp2_with fail
          refine (both_same_texts H13 (D'.fs.map fun f => (⟨f.data.toArray⟩ : ByteArray)) mem1 mem2 (flV_map _) (flV_map _) (by simp only [List.length_map]; exact hf2)).mono ?_
          rintro e w14 ⟨rfl, H14⟩
          clear H11 H12 H13
          go_wp2_with fail
          refine (both_works H14).mono ?_
          rintro e w15 ⟨rfl, H15⟩
          go_wp2_with fail
          go_ret
          exact ⟨rfl, HB1.out.trans (H15.out.bel.mono HB1.out.size)⟩
        · have q1 : dst.toList.isEmpty = false := by
            rw [Lib.toList_data]
            cases h : dst.data.toList
            · have : dst.size = 0 := by
                have := congrArg List.length h
                exact this
              omega
            · rfl
          have q2 : decide ((16 : Int) < (dst.size : Int)) = true := decide_eq_true (by omega)
          have q3 : ¬ dst.toList = [] := fun e => by rw [e] at q1; cases q1
          clear hz
          go_wp2_with fail
          refine (both_names H11).mono ?_
          rintro e w12 ⟨A12, c12, rfl, H12⟩
          go_wp2_with fail
          refine (both_same_texts H12 (Dsk.names D'.fs) mem0 mem4 rfl rfl (by simp only [Dsk.names, List.length_map]; exact hf2)).mono ?_
          rintro e w13 ⟨rfl, H13⟩
          go_wp2_with fail
          refine (both_same_texts H13 (D'.fs.map fun f => (⟨f.data.toArray⟩ : ByteArray)) mem1 mem2 (flV_map _) (flV_map _) (by simp only [List.length_map]; exact hf2)).mono ?_
          rintro e w14 ⟨rfl, H14⟩
          clear H11 H12 H13
          go_wp2_with fail
          refine (both_works H14).mono ?_
          rintro e w15 ⟨rfl, H15⟩
          go_wp2_with fail
          go_ret
          exact ⟨rfl, HB1.out.trans (H15.out.bel.mono HB1.out.size)⟩
      · injection h3 with e1 e2
        subst e2
        have HFS : Hid (D'.fs = Dsk.renameF D.fs (Dsk.place (Dsk.names D.fs) src) src dst) := by unfold Hid; rw [e1]
        have HSD : Hid (∃ g ∈ D.fs, g.name = src ∧ sd = g.data ∧ sb = true) := by
          obtain ⟨f, hf, hfn⟩ := List.mem_map.1 h1
          have h4 := Dsk.look_mem HGD.out.rise hf
          rw [hfn, HL.out] at h4
          injection h4 with e1 e2
          exact ⟨f, hf, hfn, e1, e2⟩
        have HREN := Lib.hid (Dsk.renamed (nw := dst) HGD.out.rise h1)
        have hsb : sb = true := by obtain ⟨_, _, _, _, h⟩ := HSD.out; exact h
        subst hsb
        clear e1 h1 h2 HL HRC
        go_wp2_with fail
        refine (both_names H11).mono ?_
        rintro e w12 ⟨A12, c12, rfl, H12⟩
        go_wp2_with fail
        refine (both_unsync H12).mono ?_
        rintro e w13 ⟨A13, c13, rfl, H13⟩
        clear H11 H12
        have hlen2 : D'.fs.length = (Dsk.renameF D.fs (Dsk.place (Dsk.names D.fs) src) src dst).length := by rw [HFS.out]
        have hlen3 := HREN.out.2
        have HLE : Hid (D'.fs.length = D.fs.length - if dst ∈ Dsk.names D.fs ∧ src ≠ dst then 1 else 0) := by unfold Hid; rw [hlen2, hlen3]
        have HEL : Hid (∀ f ∈ D'.fs, (f.name = dst ∧ f.data = sd ∧ ∀ g ∈ D.fs, g.name = src → f.sure = g.sure ∧ f.data = g.data) ∨ (f.name ≠ dst ∧ f.name ≠ src ∧ f ∈ D.fs)) := fun f hf => by
          rw [HFS.out] at hf
          rcases HREN.out.1 f hf with ⟨q1, g, q2, q3, q4, q5⟩ | h
          · obtain ⟨g', p1, p2, p3, _⟩ := HSD.out
            have e1 := Dsk.same_name HGD.out.rise q2 p1 (q3.trans p2.symm)
            subst e1
            refine .inl ⟨q1, q4.trans p3.symm, fun g2 p4 p5 => ?_⟩
            have e2 := Dsk.same_name HGD.out.rise p4 q2 (p5.trans q3.symm)
            subst e2
            exact ⟨q5, q4⟩
          · exact .inr h
        clear hlen2 hlen3 HFS HREN
        go_wp2_with fail
        go_loopg [6, 19, 20, 21, 22, 23] D'.fs.length (fun kx s6 s19 s20 s21 s22 s23 wr => ∃ i : Nat, i ≤ D'.fs.length ∧ s19 = .int .i64 (i : Int) ∧ D'.fs.length - i ≤ kx ∧ s6 = .bool false ∧ Hid (Below w13.heap.size w13 wr))
        case atStart => exact ⟨0, Nat.zero_le _, rfl, by omega, rfl, Below.refl _ _⟩
        case round =>
          obtain ⟨i, hi, rfl, hkx, rfl, HW⟩ := hrel
          by_cases hlt : i < D'.fs.length
          · have HB := Lib.hid (H13.out.below HW.out)
            obtain ⟨b13, o13, rfl, y13⟩ := (HB.out.reads mem0).at_ (i := i) (x := .int .i64 ((D'.fs[i].data.length - D'.fs[i].sure : Nat) : Int)) (by simp [Dsk.unsynced, hlt]) (by simp [Dsk.unsynced, List.getD, hlt])
            obtain ⟨b12, o12, rfl, y12⟩ := (HB.out.reads mem1).at_ (i := i) (x := .string D'.fs[i].name) (by simpa [Dsk.names] using hlt) (by simp [Dsk.names, List.getD, hlt])
            obtain ⟨b10, o10, rfl, y10⟩ := (HB.out.reads mem2).at_ (i := i) (x := .string ⟨D'.fs[i].data.toArray⟩) (by simp [hlt]) (by simp [flV, List.getD, hlt])
            have HF := Lib.hid (HEL.out _ (List.getElem_mem hlt))
            have hlk : (i : Int) < (D'.fs.length : Int) := by omega
            have h16 : (i : Int) < 16 := by omega
            generalize D'.fs[i] = f at *
            obtain ⟨fn, fd, fu⟩ := f
            simp only at y13 y12 y10 HF
            have hf2 : D.fs.length ≤ 1000000 := by omega
            obtain ⟨⟨ld, lb⟩, HLF⟩ : ∃ R, Hid (Dsk.look D.fs fn = R) := ⟨_, rfl⟩
            go_wp2_with fail
            refine (old_any D.fs HGD.out.rise fn (HB.out.reads mem5) (HB.out.reads mem3) hf2).mono ?_
            rintro e wo ⟨he, hst⟩
            rw [HLF.out] at he
            subst he
            have HO := Lib.hid hst
            have y13 := (hst.cell ⟨b13, o13 + i, none⟩).trans y13
            have y12 := (hst.cell ⟨b12, o12 + i, none⟩).trans y12
            have y10 := (hst.cell ⟨b10, o10 + i, none⟩).trans y10
            have HB2 := Lib.hid (HB.out.still hst)
            clear hst HB
            obtain ⟨tb, htb⟩ : ∃ tb, (fn.toList == dst.toList) = tb := ⟨_, rfl⟩
            go_upto_if 146 with fail
            have HTB := Lib.hid htb
            clear htb
            go_cut [20, 21, 22] (fun s20 s21 s22 wx => ∃ pn : ByteArray, s20 = .string ⟨fd.toArray⟩ ∧ s21 = .bool true ∧ s22 = .string pn ∧ Hid ((∀ g ∈ D.fs, g.name = pn → (g.data.length - g.sure : Nat) = fd.length - fu) ∧ (fn ≠ src ∨ src = dst) ∧ wx = wo))
            case first =>
              rcases HF.out with ⟨q1, q2, q3⟩ | ⟨q1, q2, q3⟩
              · have htt : tb = true := by rw [← HTB.out, q1]; exact beq_self_eq_true _
                subst htt
                subst q1
                subst q2
                have Q3 := Lib.hid q3
                clear q3
                go_wp2_with fail
                go_meet
                case rel => exact ⟨src, rfl, rfl, rfl, fun g hg hn => by rw [(Q3.out g hg hn).1, (Q3.out g hg hn).2], (Decidable.em (src = fn)).elim (fun e => .inr e) (fun e => .inl fun h => e h.symm), rfl⟩
              · have htt : tb = false := by rw [← HTB.out]; exact beq_eq_false_iff_ne.2 fun e => q1 (Dsk.tl_inj e)
                subst htt
                have h4 := Dsk.look_mem HGD.out.rise q3
                rw [HLF.out] at h4
                injection h4 with e1 e2
                subst e1 e2
                have Q2 := Lib.hid q2
                have Q3 := Lib.hid q3
                clear q1 q2 q3
                go_wp2_with fail
                go_meet
                case rel => exact ⟨fn, rfl, rfl, rfl, fun g hg hn => by rw [Dsk.same_name HGD.out.rise hg Q3.out hn], .inl Q2.out, rfl⟩
            case rest =>
              obtain ⟨pn, rfl, rfl, rfl, HQ⟩ := hcut
              obtain rfl : wo = wc := HQ.out.2.2.symm
              clear HF HLF
              go_upto_region 25 with fail
              go_cut [171] (fun s wx => s = .bool false ∧ Hid (wx = wo))
              case first =>
                by_cases hfs : fn = src
                · have hsd : src = dst := by
                    rcases HQ.out.2.1 with h | h
                    · exact absurd hfs h
                    · exact h
                  subst hfs
                  subst hsd
                  go_wp2_with fail
                  go_meet
                  case rel => exact ⟨rfl, rfl⟩
                · have t1 : (fn.toList == src.toList) = false := beq_eq_false_iff_ne.2 fun e => hfs (Dsk.tl_inj e)
                  have HFN := Lib.hid hfs
                  clear hfs
                  go_wp2_with fail
                  go_meet
                  case rel => exact ⟨rfl, rfl⟩
              case rest =>
                obtain ⟨rfl, HWC⟩ := hcut
                obtain rfl : wo = wc := HWC.out.symm
                go_wp2_with fail
                go_loopg [6, 23] D.fs.length (fun kx s6 s23 W => ∃ k : Nat, k ≤ D.fs.length ∧ s23 = .int .i64 (k : Int) ∧ D.fs.length - k ≤ kx ∧ s6 = .bool false ∧ Hid (Still wo W))
                case atStart => exact ⟨0, Nat.zero_le _, rfl, by omega, rfl, Still.refl _⟩
                case round =>
                  obtain ⟨k, hk, rfl, hkk3, rfl, HK⟩ := hrel
                  have HKW := Lib.hid (HK.out)
                  by_cases hlt2 : k < D.fs.length
                  · have HB := Lib.hid (HB2.out.still HK.out)
                    obtain ⟨b6, o6, rfl, y6⟩ := (HB.out.reads mem5).at_ (i := k) (x := .string D.fs[k].name) (by simpa [Dsk.names] using hlt2) (by simp [Dsk.names, List.getD, hlt2])
                    obtain ⟨b7, o7, rfl, y7⟩ := (HB.out.reads mem4).at_ (i := k) (x := .int .i64 ((D.fs[k].data.length - D.fs[k].sure : Nat) : Int)) (by simp [Dsk.unsynced, hlt2]) (by simp [Dsk.unsynced, List.getD, hlt2])
                    have y13 := (HK.out.cell ⟨b13, o13 + i, none⟩).trans y13
                    have HE : Hid (D.fs[k].name = pn → (D.fs[k].data.length - D.fs[k].sure : Nat) = fd.length - fu) := HQ.out.1 _ (List.getElem_mem hlt2)
                    have hlk2 : (k : Int) < (D.fs.length : Int) := by omega
                    have hk16 : (k : Int) < 16 := by omega
                    generalize D.fs[k] = g at *
                    obtain ⟨gn, gd, gu⟩ := g
                    simp only at y6 y7 HE
                    by_cases hn : gn = pn
                    · have e1 := HE.out hn
                      rw [e1] at y7
                      subst hn
                      clear e1 HE HB
                      generalize ((fd.length - fu : Nat) : Int) = u at *
                      go_wp2_with fail
                      go_quiet (fail)
                      go_wp2_with fail
                      go_roundg (D.fs.length - (k + 1))
                      case measure => omega
                      case rel => exact ⟨k + 1, by omega, by go_num, by omega, rfl, HKW.out.drewN _⟩
                    · have t1 : (gn.toList == pn.toList) = false := beq_eq_false_iff_ne.2 fun e => hn (Dsk.tl_inj e)
                      have HNN := Lib.hid hn
                      clear hn HB
                      go_wp2_with fail
                      go_quiet (fail)
                      go_wp2_with fail
                      go_roundg (D.fs.length - (k + 1))
                      case measure => omega
                      case rel => exact ⟨k + 1, by omega, by go_num, by omega, rfl, HKW.out.drewN _⟩
                  · obtain rfl : k = D.fs.length := by omega
                    have hlk2 : ¬ ((D.fs.length : Int) < (D.fs.length : Int)) := by omega
                    go_wp2_with fail
                    go_roundg (D'.fs.length - (i + 1))
                    case measure => omega
                    case rel => exact ⟨i + 1, by omega, by go_num, by omega, rfl, HW.out.trans ((HO.out _).trans (HKW.out _))⟩
          · obtain rfl : i = D'.fs.length := by omega
            have hlk : ¬ ((D'.fs.length : Int) < (D'.fs.length : Int)) := by omega
            have H14 := Lib.hid (H13.out.below HW.out)
            have hf2 : D.fs.length ≤ 1000000 := by omega
            clear H13 HW
            by_cases hdm : dst ∈ Dsk.names D.fs
            · obtain ⟨⟨ld, lb⟩, HLF⟩ : ∃ R, Hid (Dsk.look D.fs dst = R) := ⟨_, rfl⟩
              have hlb : lb = true := by
                obtain ⟨f, hf, hfn⟩ := List.mem_map.1 hdm
                have h4 := Dsk.look_mem HGD.out.rise hf
                rw [hfn, HLF.out] at h4
                injection h4
              subst hlb
              have h1 : 1 ≤ D.fs.length := by
                obtain ⟨f, hf, _⟩ := List.mem_map.1 hdm
                exact List.length_pos_of_mem hf
              by_cases hsd : src = dst
              · have hle := HLE.out
                rw [if_neg (fun h => h.2 hsd)] at hle
                have t1 : ((D'.fs.length : Int) == (D.fs.length : Int)) = true := by simp [hle]
                subst hsd
                clear hle hdm
                go_wp2_with fail
                refine (both_old H14 D.fs HGD.out.rise src mem5 mem3 hf2 HLF.out).mono ?_
                rintro e w15 ⟨rfl, H15⟩
                go_wp2_with fail
                refine (both_works H15).mono ?_
                rintro e w16 ⟨rfl, H16⟩
                go_wp2_with fail
                go_ret
                exact ⟨rfl, HB1.out.trans (H16.out.bel.mono HB1.out.size)⟩
              · have hle := HLE.out
                rw [if_pos ⟨hdm, hsd⟩] at hle
                have t1 : ((D'.fs.length : Int) == (D.fs.length : Int) - 1) = true := by
                  have : (D'.fs.length : Int) = (D.fs.length : Int) - 1 := by omega
                  simp [this]
                have t2 : (src.toList == dst.toList) = false := beq_eq_false_iff_ne.2 fun e => hsd (Dsk.tl_inj e)
                have HSD2 := Lib.hid hsd
                clear hle hdm hsd
                go_wp2_with fail
                refine (both_old H14 D.fs HGD.out.rise dst mem5 mem3 hf2 HLF.out).mono ?_
                rintro e w15 ⟨rfl, H15⟩
                go_wp2_with fail
                refine (both_works H15).mono ?_
                rintro e w16 ⟨rfl, H16⟩
                go_wp2_with fail
                go_ret
                exact ⟨rfl, HB1.out.trans (H16.out.bel.mono HB1.out.size)⟩
            · have HLF := Lib.hid (Dsk.look_not hdm)
              have hle := HLE.out
              rw [if_neg (fun h => hdm h.1)] at hle
              have t1 : ((D'.fs.length : Int) == (D.fs.length : Int)) = true := by simp [hle]
              have HDM := Lib.hid hdm
              clear hle hdm
              go_wp2_with fail
              refine (both_old H14 D.fs HGD.out.rise dst mem5 mem3 hf2 HLF.out).mono ?_
              rintro e w15 ⟨rfl, H15⟩
              go_wp2_with fail
              refine (both_works H15).mono ?_
              rintro e w16 ⟨rfl, H16⟩
              go_wp2_with fail
              go_ret
              exact ⟨rfl, HB1.out.trans (H16.out.bel.mono HB1.out.size)⟩
end Go.Proofs.Ytdoajecpcepmiaa.diskRenameW
