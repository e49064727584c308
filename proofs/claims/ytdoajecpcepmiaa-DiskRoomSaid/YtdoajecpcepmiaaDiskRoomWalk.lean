/-
  The walk of the law DiskRoom: it returns true and writes nothing that was there.
-/
import Derived.Test.YtdoajecpcepmiaaDOpens
namespace Go.Proofs.Ytdoajecpcepmiaa.diskRoomW
open Go.RowKit
section
variable {w0 w w' : World} {d : Nat} {D : Dsk.Dk} {v : Value} {xs : List Value}
/-- A live disk, and a list of new memory that is none of its own. -/
def LiveN (w0 : World) (d : Nat) (D : Dsk.Dk) (v : Value) (xs : List Value) (w : World) : Prop := ∃ S, IsDisk w d D S ∧ (∀ k, S k → w0.heap.size ≤ k) ∧ Below w0.heap.size w0 w ∧ Reads w v xs ∧ ∀ k, v.ownBlock = some k → ¬ S k
theorem Reads.foot {S : Nat → Prop} (h : Reads w v xs) (hf : Foot S w w') (hn : ∀ k, v.ownBlock = some k → ¬ S k) : Reads w' v xs := by
  obtain ⟨A, c, rfl, h1, h2⟩ := h
  refine ⟨A, c, rfl, h1, fun h0 => ?_⟩
  obtain ⟨b, off, rfl, hb, hc⟩ := h2 h0
  exact ⟨b, off, rfl, Nat.lt_of_lt_of_le hb hf.size, fun j hj => (hf.cell (p := ⟨b, off + j, none⟩) hb (hn b rfl)).trans (hc j hj)⟩
theorem live_size (h : Hid (Live w0 d D w)) : Calls Try.prog 23 #[.pointer (some ⟨d, 0, none⟩)] w fun e w' => e = .returned (.int .i64 (Dsk.total D.fs : Int)) ∧ Hid (Below w.heap.size w w' ∧ Live w0 d D w') := by
  obtain ⟨S, h1, h2, h3⟩ := h.out
  refine (size_any h1).mono ?_
  rintro e w' ⟨rfl, hb⟩
  exact ⟨rfl, hb, Live.below ⟨S, h1, h2, h3⟩ hb⟩
theorem live_namesN (h : Hid (Live w0 d D w)) : Calls Try.prog 18 #[.pointer (some ⟨d, 0, none⟩)] w fun e w' => ∃ A c, e = .returned (.slice A D.fs.length c) ∧ Hid (LiveN w0 d D (.slice A D.fs.length c) ((Dsk.names D.fs).map Value.string) w') ∧ Hid (Below w.heap.size w w') := by
  obtain ⟨S, h1, h2, h3⟩ := h.out
  refine (names_any h1).mono ?_
  rintro e w' ⟨v, rfl, ho, hb⟩
  have hr := Reads.own ho
  obtain ⟨A, c, rfl, _⟩ := hr
  have hlen : ((Dsk.names D.fs).map Value.string).length = D.fs.length := by simp [Dsk.names]
  rw [hlen] at ho ⊢
  refine ⟨A, c, rfl, ⟨S, h1.below hb, h2, h3.trans (hb.mono h3.size), ?_, fun k e hs => ?_⟩, hb⟩
  · rw [← hlen]; exact Reads.own (by rw [hlen]; exact ho)
  · obtain ⟨_, _, _, _, _, hat⟩ := h1
    have := hat.lt k hs
    rcases ho.2 with ⟨e', _⟩ | ⟨g, cap, cur, e', hg, _⟩
    · rw [e'] at e; cases e
    · rw [e'] at e
      have : g = k := Option.some.inj e
      omega
theorem live_unsyncN (h : Hid (Live w0 d D w)) : Calls Try.prog 19 #[.pointer (some ⟨d, 0, none⟩)] w fun e w' => ∃ A c, e = .returned (.slice A D.fs.length c) ∧ Hid (Below w.heap.size w w') := by
  obtain ⟨S, h1, h2, h3⟩ := h.out
  refine (unsync_any h1).mono ?_
  rintro e w' ⟨v, rfl, ho, hb⟩
  obtain ⟨A, c, rfl, _⟩ := Reads.own ho
  have hlen : ((Dsk.unsynced D.fs).map (Value.int .i64)).length = D.fs.length := by simp [Dsk.unsynced]
  rw [hlen]
  exact ⟨A, c, rfl, hb⟩
theorem LiveN.below (h : LiveN w0 d D v xs w) (hb : Below w.heap.size w w') : LiveN w0 d D v xs w' := by
  obtain ⟨S, h1, h2, h3, h4, h5⟩ := h
  exact ⟨S, h1.below hb, h2, h3.trans (hb.mono h3.size), h4.below hb, h5⟩
theorem LiveN.live (h : LiveN w0 d D v xs w) : Live w0 d D w := by
  obtain ⟨S, h1, h2, h3, _⟩ := h
  exact ⟨S, h1, h2, h3⟩
def DoesPost (w0 : World) (d : Nat) (D : Dsk.Dk) (x : ActV) (v : Value) (xs : List Value) (e : Ending) (w' : World) : Prop :=
  ∃ (r : Int) (D' : Dsk.Dk), e = .returned (.int .i64 r) ∧ Hid (Dsk.Mild D (D', r)) ∧ Hid (Live w0 d D' w' ∧ Reads w' v xs ∧ ∃ kp, (D', r) = Dsk.act D x kp)
theorem does_liveN (x : ActV) (h : Hid (LiveN w0 d D v xs w)) (hx : ActAt w0 x) (hst : D.starts ≤ 1000000) : Calls Try.prog 13 #[.pointer (some ⟨d, 0, none⟩), x.val] w (DoesPost w0 d D x v xs) := by
  obtain ⟨S, h1, h2, h3, h4, h5⟩ := h.out
  obtain ⟨kp, _, hk⟩ := hx.keep
  have hk0 : 0 ≤ x.k := by have := hx.k; simp [Lit.wf, IntKind.min, IntKind.max, IntKind.signed, IntKind.bits] at this; omega
  have hn : x.n ≤ 9223372036854775807 := by have := hx.n; simp [Lit.wf, IntKind.min, IntKind.max, IntKind.signed, IntKind.bits] at this; omega
  refine (does_any x kp h1 hst hk0 hn (hk.foot (below_foot h3 : Foot (fun _ => False) w0 w) fun _ _ e => e) (fun k h0 e hs => ?_)).mono ?_
  · have := h2 k hs
    obtain ⟨_, _, hv, _, _, _, h6⟩ := hk
    obtain ⟨b, off, rfl, hbl, _⟩ := h6 h0
    injection hv with hv
    rw [hv] at e
    have : b = k := Option.some.inj e
    omega
  · rintro e w' ⟨r, rfl, hd⟩
    have hf : Foot S w w' := hd.2.choose_spec.2.1
    obtain ⟨rfl, hl⟩ := Live.did h2 h3 hd
    exact ⟨_, _, rfl, Dsk.mild_act D x kp, hl, Reads.foot h4 hf h5, kp, rfl⟩
end
theorem live_good {w0 w : World} {d : Nat} {D : Dsk.Dk} (h : Live w0 d D w) : Dsk.Good D := by
  obtain ⟨S, ⟨_, _, _, _, _, h⟩, _⟩ := h
  exact h.good
set_option maxRecDepth 100000 in
set_option maxHeartbeats 4000000 in
theorem walk (m : Nat) (v : Value) (l : List ActV) (w : World) (hm : m < 65536) (hl : Acts w v l) (hat : ∀ x ∈ l, ActAt w x) :
    Calls Try.prog 7 #[.int .u16 (m : Int), v] w fun e w' => e = .returned (.bool true) ∧ Below w.heap.size w w' := by
  have HG := Lib.hid (great_any hl)
  obtain ⟨A, c, rfl, hc1, hc2, hA⟩ := hl
  have HA := Lib.hid hA
  have HAT := Lib.hid hat
  clear hA hat
  unfold maxLen at hc2
  go_enter Try.func7, Try.ntmps7
  go_wp2_with fail
  refine HG.out.mono ?_
  rintro e w1 ⟨b, rfl, hsm, hb1⟩
  cases b
  case true =>
    go_wp2_with fail
    go_ret
    exact ⟨rfl, hb1⟩
  case false =>
    have hsm' := hsm rfl
    have h150 : l.length ≤ 150 := hsm'.2.2
    clear hsm hsm' HG
    have HB1 := Lib.hid hb1
    clear hb1
    obtain ⟨M, hM, hM1, hM2⟩ : ∃ M : Nat, (1 + (m : Int) % 5000) = (M : Int) ∧ 1 ≤ M ∧ M ≤ 5000 := ⟨1 + m % 5000, by omega, by omega, by omega⟩
    go_wp2_with fail
    clear hM hm
    refine (new_any _).mono ?_
    rintro e w2 (⟨hn, _⟩ | ⟨_, rfl, h2, hb2⟩)
    · exact absurd ⟨by omega, by omega⟩ hn
    have L2 : Hid (Live w w1.heap.size (Dsk.new M) w2) := ⟨_, h2, fun k e => by rw [e]; exact HB1.out.size, HB1.out.trans (hb2.mono HB1.out.size)⟩
    clear h2 hb2
    generalize w1.heap.size = d at *
    go_wp2_with fail
    go_loopg [4, 8, 9, 10, 11, 12, 13] l.length (fun kx s4 s8 s9 s10 s11 s12 s13 wr => ∃ i : Nat, i ≤ l.length ∧ s8 = .int .i64 (i : Int) ∧ l.length - i ≤ kx ∧ s4 = .bool false ∧ Hid (∃ D, Live w d D wr ∧ D.cap = M ∧ D.starts ≤ i))
    case atStart => exact ⟨0, Nat.zero_le _, rfl, by omega, rfl, _, L2.out, rfl, Nat.le_refl _⟩
    case round =>
      obtain ⟨i, hi, rfl, hkx, rfl, HL⟩ := hrel
      clear L2
      by_cases hlt : i < l.length
      · obtain ⟨D, hl0, hcap, hst⟩ := HL.out
        have L0 := Lib.hid hl0
        obtain ⟨b, o, rfl, hbl, hcells⟩ := HA.out (by omega)
        have HX := Lib.hid (HAT.out l[i] (List.getElem_mem hlt))
        have HC := Lib.hid (hcells i hlt)
        clear hcells hl0 HL
        have hlk : (i : Int) < (l.length : Int) := by omega
        generalize l[i] = x at *
        go_wp2_with fail
        refine (live_size L0).mono ?_
        rintro e w3 ⟨rfl, H3⟩
        go_wp2_with fail
        refine (live_namesN (Lib.hid H3.out.2)).mono ?_
        rintro e w4 ⟨A4, c4, rfl, H4, _⟩
        obtain ⟨x0, x1, x2, x3, x4, x5⟩ := HC.out.below hbl H4.out.choose_spec.2.2.1
        obtain ⟨xk, nm, ot, dt, xn, ka, kl, kc⟩ := x
        simp only at x0 x1 x2 x3 x4 x5
        go_wp2_with fail
        refine (does_liveN ⟨xk, nm, ot, dt, xn, ka, kl, kc⟩ H4 HX.out (by omega)).mono ?_
        rintro e w5 ⟨r, D', rfl, HM, H5⟩
        clear x0 x1 x2 x3 x4 x5 H4 H3
        go_wp2_with fail
        refine (live_namesN (Lib.hid H5.out.1)).mono ?_
        rintro e w6 ⟨A6, c6, rfl, H6, HB6⟩
        have hfew := (live_good H5.out.1).few
        have hroom := (live_good H5.out.1).room
        have hcp := HM.out.1
        simp only at hcp
        have hnl : (Dsk.names D'.fs).length = D'.fs.length := by simp [Dsk.names]
        have HNL := Lib.hid hnl
        have HGD := Lib.hid (live_good H5.out.1)
        clear hnl
        go_upto_region 13 with fail
        go_cut [58] (fun s wx => s = .bool false ∧ Hid (LiveN w d D' (.slice A6 D'.fs.length c6) ((Dsk.names D'.fs).map Value.string) wx))
        case first =>
          by_cases hr : r = 40
          · have hD : D' = D := HM.out.2.2 hr
            have t1 : (r == 40) = true := by simp [hr]
            subst hD
            clear hr
            go_wp2_with fail
            refine (live_size (Lib.hid H6.out.live)).mono ?_
            rintro e w7 ⟨rfl, H7⟩
            go_wp2_with fail
            have hr6 : Reads w6 (.slice A6 D'.fs.length c6) ((Dsk.names D'.fs).map Value.string) := H6.out.choose_spec.2.2.2.1
            refine (sameTexts_any _ _ (Dsk.names D'.fs) w7 (hr6.below H7.out.1) ((H5.out.2.1.below HB6.out).below H7.out.1) (by rw [HNL.out]; omega)).mono ?_
            rintro e w8 ⟨rfl, hb8⟩
            have HB8 := Lib.hid hb8
            clear hb8
            go_wp2_with fail
            go_meet
            case rel => exact ⟨rfl, (H6.out.below H7.out.1).below HB8.out⟩
          · have t1 : (r == 40) = false := by simp [hr]
            go_wp2_with fail
            go_meet
            case rel => exact ⟨rfl, H6.out⟩
        case rest =>
          obtain ⟨rfl, H7⟩ := hcut
          clear H6 HB6
          have t2 : decide ((M : Int) < (Dsk.total D'.fs : Int)) = false := decide_eq_false (by omega)
          have t3 : decide ((16 : Int) < (D'.fs.length : Int)) = false := decide_eq_false (by omega)
          go_wp2_with fail
          refine (live_size (Lib.hid H7.out.live)).mono ?_
          rintro e w8 ⟨rfl, H8⟩
          have H7b := Lib.hid (H7.out.below H8.out.1)
          go_wp2_with fail
          refine (live_unsyncN (Lib.hid H7b.out.live)).mono ?_
          rintro e w9 ⟨A9, c9, rfl, H9⟩
          have H10 := Lib.hid (H7b.out.below H9.out)
          clear H7 H8 H7b H9
          go_wp2_with fail
          go_loopg [4, 13] D'.fs.length (fun kx s4 s13 W => ∃ k : Nat, k ≤ D'.fs.length ∧ s13 = .int .i64 (k : Int) ∧ D'.fs.length - k ≤ kx ∧ s4 = .bool false ∧ Hid (LiveN w d D' (.slice A6 D'.fs.length c6) ((Dsk.names D'.fs).map Value.string) W))
          case atStart => exact ⟨0, Nat.zero_le _, rfl, by omega, rfl, H10.out⟩
          case round =>
            obtain ⟨k, hk, rfl, hkk, rfl, HK⟩ := hrel
            clear H10
            by_cases hlt2 : k < D'.fs.length
            · have hr6 : Reads wr (.slice A6 D'.fs.length c6) ((Dsk.names D'.fs).map Value.string) := HK.out.choose_spec.2.2.2.1
              obtain ⟨A', c', hv, hc6, hcl⟩ := hr6
              have hln : ((Dsk.names D'.fs).map Value.string).length = D'.fs.length := by rw [List.length_map]; exact HNL.out
              obtain ⟨b6, o6, rfl, hb6, hcl⟩ := hcl (by omega)
              injection hv with hv1 _ hv3
              subst hv1 hv3
              have hat : ∀ j (hj : j < (Dsk.names D'.fs).length), wr.cell? ⟨b6, o6 + j, none⟩ = some (.string (Dsk.names D'.fs)[j]) := fun j hj => by
                rw [hcl j (by simpa using hj)]
                simp [List.getD, hj]
              clear hcl hln
              have hkn : k < (Dsk.names D'.fs).length := by rw [HNL.out]; exact hlt2
              have y1 := hat k hkn
              have hnm : Dsk.isNm (Dsk.names D'.fs)[k] = true := by
                have := HGD.out.nm D'.fs[k] (List.getElem_mem hlt2)
                simpa [Dsk.names] using this
              have hn1 := isNm_size hnm
              have hn0 : 1 ≤ (Dsk.names D'.fs)[k].size := by unfold Dsk.isNm at hnm; simp at hnm; exact hnm.1
              have g1 : decide (((Dsk.names D'.fs)[k].size : Int) < 1) = false := decide_eq_false (by omega)
              have g2 : decide ((16 : Int) < ((Dsk.names D'.fs)[k].size : Int)) = false := decide_eq_false (by omega)
              have hlk2 : (k : Int) < (D'.fs.length : Int) := by omega
              by_cases hk0 : k = 0
              · subst hk0
                have g3 : decide ((0 : Int) < ((0 : Nat) : Int)) = false := rfl
                clear hat hnm
                generalize (Dsk.names D'.fs)[0] = z at *
                have y0 : wr.cell? ⟨b6, o6, none⟩ = some (.string z) := y1
                have hl0 : 0 < D'.fs.length := hlt2
                go_wp2_with fail
                go_quiet (fail)
                go_wp2_with fail
                go_roundg (D'.fs.length - (0 + 1))
                case measure => omega
                case rel => exact ⟨0 + 1, by omega, rfl, by omega, rfl, HK.out.below ⟨rfl, rfl, rfl, Nat.le_refl _, fun _ _ => rfl⟩⟩
              · obtain ⟨k', hkk'⟩ : ∃ k', k = k' + 1 := ⟨k - 1, by omega⟩
                have hkn' : k' < (Dsk.names D'.fs).length := by omega
                have y2 := hat k' hkn'
                have hlt3 : Dsk.nlt ((Dsk.names D'.fs)[k']'hkn') ((Dsk.names D'.fs)[k]'hkn) = true := HGD.out.rise.at_ (by omega) hkn
                have g3 : decide ((0 : Int) < (k : Int)) = true := decide_eq_true (by omega)
                have hidx : (k : Int) - 1 = (k' : Int) := by omega
                have hlk3 : (k' : Int) < (D'.fs.length : Int) := by omega
                have hlt4 : k' < D'.fs.length := by omega
                have HKE := Lib.hid hkk'
                have HLT := Lib.hid hlt3
                clear hat hnm hlt3 hkk' hk0
                generalize (Dsk.names D'.fs)[k] = z at *
                generalize (Dsk.names D'.fs)[k'] = z' at *
                have hkpos : 0 < k := by have := HKE.out; omega
                have hbl1 : Op.bytesLess z.toList z'.toList = false := Dsk.nlt_asymm HLT.out
                have hbl2 : (z.toList == z'.toList) = false := beq_eq_false_iff_ne.2 fun e => by
                  have h := HLT.out
                  rw [Dsk.tl_inj e, Dsk.nlt_irrefl] at h
                  cases h
                go_wp2_with fail
                go_quiet (fail)
                go_wp2_with fail
                go_roundg (D'.fs.length - (k + 1))
                case measure => omega
                case rel => exact ⟨k + 1, by omega, by go_num, by omega, rfl, HK.out.below ⟨rfl, rfl, rfl, Nat.le_refl _, fun _ _ => rfl⟩⟩
            · obtain rfl : k = D'.fs.length := by omega
              have hlk2 : ¬ ((D'.fs.length : Int) < (D'.fs.length : Int)) := by omega
              go_wp2_with fail
              go_roundg (l.length - (i + 1))
              case measure => omega
              case rel => exact ⟨i + 1, by omega, by go_num, by omega, rfl, D', HK.out.live, by omega, by have := HM.out.2.1; simp only at this; omega⟩
      · obtain rfl : i = l.length := by omega
        have hlk : ¬ ((l.length : Int) < (l.length : Int)) := by omega
        obtain ⟨D, ⟨_, _, _, hbl⟩, _⟩ := HL.out
        clear HL
        go_wp2_with fail
        refine (works_any _).mono ?_
        rintro e w9 ⟨rfl, hb9⟩
        go_wp2_with fail
        go_ret
        exact ⟨rfl, hbl.trans (hb9.mono hbl.size)⟩
end Go.Proofs.Ytdoajecpcepmiaa.diskRoomW
