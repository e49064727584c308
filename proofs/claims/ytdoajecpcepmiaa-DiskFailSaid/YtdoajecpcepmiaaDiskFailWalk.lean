/-
  The walk of the law DiskFail: it returns true and writes nothing that was there.
-/
import Derived.Test.YtdoajecpcepmiaaDiskRenameWalk
import Derived.Test.YtdoajecpcepmiaaDSim
namespace Go.Proofs.Ytdoajecpcepmiaa.diskFailW
open Go.RowKit
open diskCrashW (acts_slice actIn_below)
def actBox (w : World) (b : Nat) (x : ActV) : Prop := w.cell? ⟨b, 0, none⟩ = some (.int .u8 x.k) ∧ w.cell? ⟨b, 1, none⟩ = some (.string x.nm) ∧ w.cell? ⟨b, 2, none⟩ = some (.string x.ot) ∧ w.cell? ⟨b, 3, none⟩ = some (.string x.dt) ∧ w.cell? ⟨b, 4, none⟩ = some (.int .i64 x.n) ∧ w.cell? ⟨b, 5, none⟩ = some (.slice x.ka x.kl x.kc)
theorem box_reads {w : World} {b : Nat} {x : ActV} (h : Reads w (.slice (some ⟨b, 0, none⟩) 6 6) x.val.cells.toList) : actBox w b x := by
  have g := fun i hi y hy => (h.at_ (i := i) (x := y) hi hy)
  refine ⟨?_, ?_, ?_, ?_, ?_, ?_⟩
  · obtain ⟨_, _, e, h⟩ := g 0 (show 0 < 6 by decide) _ rfl; injection e with e; injection e with e1 e2 _; subst e1 e2; exact h
  · obtain ⟨_, _, e, h⟩ := g 1 (show 1 < 6 by decide) _ rfl; injection e with e; injection e with e1 e2 _; subst e1 e2; exact h
  · obtain ⟨_, _, e, h⟩ := g 2 (show 2 < 6 by decide) _ rfl; injection e with e; injection e with e1 e2 _; subst e1 e2; exact h
  · obtain ⟨_, _, e, h⟩ := g 3 (show 3 < 6 by decide) _ rfl; injection e with e; injection e with e1 e2 _; subst e1 e2; exact h
  · obtain ⟨_, _, e, h⟩ := g 4 (show 4 < 6 by decide) _ rfl; injection e with e; injection e with e1 e2 _; subst e1 e2; exact h
  · obtain ⟨_, _, e, h⟩ := g 5 (show 5 < 6 by decide) _ rfl; injection e with e; injection e with e1 e2 _; subst e1 e2; exact h
theorem does_box {w0 w : World} {Q : World → (Nat → Prop) → Prop} {vs : List (Value × List Value)} {d bx : Nat} {D : Dsk.Dk} (x : ActV) (keep : List Int) (h : Hid (Both w0 (AtDisk d D) Q vs w)) (hb : (.slice (some ⟨bx, 0, none⟩) 6 6, x.val.cells.toList) ∈ vs) (hx : ActIn w0 x keep) (hst : D.starts ≤ 1000000) {D' : Dsk.Dk} {r : Int} (hR : Dsk.act D x keep = (D', r)) :
    Calls Try.prog 13 #[.pointer (some ⟨d, 0, none⟩), x.val] w fun e w' => e = .returned (.int .i64 r) ∧ actBox w' bx x ∧ Hid (Both w0 (AtDisk d D') Q vs w') :=
  (both_does x keep h hx hst hR).mono fun _ _ hp => ⟨hp.1, box_reads (hp.2.out.reads hb), hp.2⟩
theorem below_drewN {B : Nat} {w w' : World} (h : Below B w w') (n : Nat) : Below B w (w'.drewN n) := ⟨h.os, h.tape, h.output, h.size, h.block⟩
set_option maxRecDepth 100000 in
set_option maxHeartbeats 4000000 in
theorem walk (v0 v1 : Value) (l more : List ActV) (q : Nat) (kA : Option Addr) (kc : Nat) (keep : List Int) (w : World) (hl : Acts w v0 l) (hat : ∀ x ∈ l, ActAt w x) (hl1 : Acts w v1 more) (hat1 : ∀ x ∈ more, ActAt w x) (hq : q < 256) (hk : Ints w (.slice kA keep.length kc) keep) :
    Calls Try.prog 6 #[.agg #[v0, v1], .int .u8 (q : Int), .slice kA keep.length kc] w fun e w' => e = .returned (.bool true) ∧ Below w.heap.size w w' := by
  obtain ⟨K, hK⟩ := acts_in hat
  obtain ⟨K1, hK1⟩ := acts_in hat1
  have HG := Lib.hid (fun W (hb : Below w.heap.size w W) => great_any (hl.below hb))
  have HG1 := Lib.hid (fun W (hb : Below w.heap.size w W) => great_any (hl1.below hb))
  have HPL := Lib.hid (fun W (hb : Below w.heap.size w W) (h150 : l.length ≤ 150) => played_any 4000 (by decide) v0 l W (hl.below hb) K (fun x hx => actIn_below (hK x hx) hb) h150)
  have HM := Lib.hid (fun W (hb : Below w.heap.size w W) => hl1.below hb)
  have HM1 := Lib.hid (fun W (hb : Below w.heap.size w W) x hx => actIn_below (hK1 x hx) hb)
  have HK := Lib.hid hk
  have hkl : keep.length ≤ 9223372036854775807 := by
    obtain ⟨A', c', _, h1, h2, _⟩ := hk
    unfold maxLen at h2; omega
  obtain ⟨A, c, rfl, hll⟩ := acts_slice hl
  obtain ⟨A1, c1, rfl, hll1⟩ := acts_slice hl1
  clear hat hK hk hl hat1 hK1 hl1
  go_enter Try.func6, Try.ntmps6
  go_wp2_with fail
  have HB0 := Lib.hid (below_alloc w (.cells #[.slice A l.length c, .slice A1 more.length c1] 60))
  go_quiet (fail)
  go_wp2_with fail
  refine (HG.out _ (below_drewN HB0.out _)).mono ?_
  rintro e w1 ⟨b, rfl, hsm, hb1⟩
  have HB1 := Lib.hid ((below_drewN HB0.out _).trans (hb1.mono (below_drewN HB0.out _).size))
  clear hb1 HG HB0
  cases b
  case true =>
    go_wp2_with fail
    go_ret
    exact ⟨rfl, HB1.out⟩
  case false =>
  have h150 : l.length ≤ 150 := (hsm rfl).2.2
  clear hsm
  go_wp2_with fail
  refine (HG1.out _ HB1.out).mono ?_
  rintro e w2 ⟨b, rfl, hsm, hb2⟩
  have HB2 := Lib.hid (HB1.out.trans (hb2.mono HB1.out.size))
  clear hb2 HG1 HB1
  cases b
  case true =>
    go_wp2_with fail
    go_ret
    exact ⟨rfl, HB2.out⟩
  case false =>
  have HSM := Lib.hid (hsm rfl)
  clear hsm
  by_cases hk1 : more.length ≤ 100
  case neg =>
    have t0 : decide ((100 : Int) < (more.length : Int)) = true := decide_eq_true (by omega)
    go_wp2_with fail
    go_ret
    exact ⟨rfl, HB2.out⟩
  case pos =>
  by_cases hkk : keep.length ≤ 100
  case neg =>
    have t0 : decide ((100 : Int) < (more.length : Int)) = false := decide_eq_false (by omega)
    have t1 : decide ((100 : Int) < (keep.length : Int)) = true := decide_eq_true (by omega)
    go_wp2_with fail
    go_ret
    exact ⟨rfl, HB2.out⟩
  case pos =>
  have t0 : decide ((100 : Int) < (more.length : Int)) = false := decide_eq_false (by omega)
  have t1 : decide ((100 : Int) < (keep.length : Int)) = false := decide_eq_false (by omega)
  have HK2 := Lib.hid (HK.out.old HB2.out)
  have HA2 := Lib.hid (HM.out _ HB2.out)
  have HI2 := Lib.hid (HM1.out _ HB2.out)
  clear HK HM HM1
  go_wp2_with fail
  refine (HPL.out w2 HB2.out h150).mono ?_
  rintro e w3 ⟨a, rfl, H3⟩
  have HB3 := Lib.hid (HB2.out.trans (H3.out.bel.mono HB2.out.size))
  go_wp2_with fail
  refine (HPL.out w3 HB3.out h150).mono ?_
  rintro e w4 ⟨b, rfl, H4⟩
  have H5 := Lib.hid (H3.out.join H4.out)
  clear H3 H4 HB3
  have HS : Hid ((Dsk.plays K (Dsk.new (1 + 4000 % 5000)) l).starts ≤ 150) := by
    have := (Dsk.plays_mild K (Dsk.new (1 + 4000 % 5000)) l).2
    have h0 : (Dsk.new (1 + 4000 % 5000)).starts = 0 := rfl
    show _ ≤ 150
    omega
  have HC : Hid (Dsk.Calm (Dsk.plays K (Dsk.new (1 + 4000 % 5000)) l)) := Dsk.calm_plays K (fun h => by cases h) l
  clear HPL
  generalize Dsk.plays K (Dsk.new (1 + 4000 % 5000)) l = D0 at *
  go_wp2_with fail
  refine (both_make_up H5 (by have := HS.out; omega)).mono ?_
  rintro e w5 ⟨rfl, H6⟩
  go_wp2_with fail
  refine (both_make_up (Lib.hid H6.out.swap) (by have := HS.out; omega)).mono ?_
  rintro e w6 ⟨rfl, H7⟩
  have HU := Lib.hid (Dsk.upD_is HC.out)
  have HS1 : Hid ((Dsk.upD D0).starts ≤ 151) := by have h1 := HU.out.2.2; have h2 := HS.out; show _ ≤ 151; omega
  clear H5 H6 HC HS
  generalize Dsk.upD D0 = D1 at *
  obtain ⟨n, hn, hn20⟩ : ∃ n : Nat, (q : Int) % 20 = (n : Int) ∧ n < 20 := ⟨q % 20, by omega, by omega⟩
  have HFS := Lib.hid (Dsk.failSet_up HU.out.1 n keep)
  have hni : (n : Int) ≤ 9223372036854775807 := by omega
  go_wp2_with fail
  refine (both_fail _ keep n hni (Lib.hid H7.out.swap) HK2.out HFS.out).mono ?_
  rintro e w8 ⟨rfl, H8⟩
  clear H7 HFS
  have HKP : Hid (∃ kp, kp = keep.take 16) := ⟨_, rfl⟩
  generalize keep.take 16 = kp at *
  go_wp2_with fail
  go_loopg [6, 11, 12] more.length (fun kx s6 s11 s12 wr => ∃ (i dn : Nat) (B : Dsk.Dk), i ≤ more.length ∧ s12 = .int .i64 (i : Int) ∧ s11 = .int .i64 (dn : Int) ∧ dn ≤ n ∧ more.length - i ≤ kx ∧ s6 = .bool false ∧ Hid (Both w2 (AtDisk a (Dsk.setF B (n - dn) kp)) (AtDisk b B) [] wr ∧ B.down = false ∧ B.fail = none ∧ B.starts ≤ 151))
  case atStart => exact ⟨0, 0, D1, Nat.zero_le _, rfl, rfl, Nat.zero_le _, by omega, rfl, H8.out, HU.out.1, HU.out.2.1, HS1.out⟩
  case round =>
    obtain ⟨i, dn, B, hi, rfl, rfl, hdn, hkx, rfl, HL⟩ := hrel
    clear H8
    by_cases hlt : i < more.length
    · obtain ⟨hL, hBd, hBf, hBs⟩ := HL.out
      have HL0 := Lib.hid hL
      have HBD := Lib.hid hBd
      have HBF := Lib.hid hBf
      have HBS := Lib.hid hBs
      have hfew := hL.swap.good.few
      have HRI := Lib.hid hL.swap.good.rise
      have HCAP : Hid (Dsk.total B.fs ≤ 1048576) := Nat.le_trans hL.swap.good.room hL.swap.good.cap1
      clear hL hBd hBf hBs
      obtain ⟨bm, om, rfl, hbl, hcells⟩ := HA2.out.at_ hlt
      obtain ⟨x0, x1, x2, x3, x4, x5⟩ := hcells.below hbl HL0.out.bel
      have HX := Lib.hid (HI2.out _ (List.getElem_mem hlt))
      have HLI := Lib.hid (HSM.out.1 _ (List.getElem_mem hlt))
      have hlk : (i : Int) < (more.length : Int) := by omega
      clear hcells
      generalize more[i] = x at *
      generalize K1 x = kx at *
      have hk0 := HX.out.k0
      have hk9 : x.k ≤ 255 := by have := HX.out.k; simp [Lit.wf, IntKind.min, IntKind.max, IntKind.signed, IntKind.bits] at this; omega
      obtain ⟨xk, nm, ot, dt, xn, ka, kl, kc2⟩ := x
      simp only at x0 x1 x2 x3 x4 x5 hk0 hk9
      by_cases h8 : 8 ≤ xk % 12
      · have t2 : decide (8 ≤ xk % 12) = true := decide_eq_true h8
        go_wp2_with fail
        go_roundg (more.length - (i + 1))
        case measure => omega
        case rel => exact ⟨i + 1, dn, B, by omega, by go_num, rfl, hdn, by omega, rfl, HL0.out.below (below_alloc _ _), HBD.out, HBF.out, HBS.out⟩
      · have t2 : decide (8 ≤ xk % 12) = false := decide_eq_false h8
        obtain ⟨fs', mid, r, HSIM, HMID⟩ : ∃ fs' mid r, Hid (Dsk.Sim B (Dsk.act · ⟨xk, nm, ot, dt, xn, ka, kl, kc2⟩ kx) fs' mid r) ∧ Hid (r = 0 → mid = if xk % 12 < 4 then Dsk.addTo B.fs nm dt else B.fs) := by
          obtain ⟨fs', mid, r, h1, h2⟩ := Dsk.sim_act HBD.out HBF.out ⟨xk, nm, ot, dt, xn, ka, kl, kc2⟩ kx (by show xk % 12 < 8; omega)
          exact ⟨fs', mid, r, h1, h2⟩
        have HRB := Lib.hid HSIM.out.plain
        obtain ⟨⟨A', ra⟩, HRA⟩ : ∃ R, Hid (Dsk.act (Dsk.setF B (n - dn) kp) ⟨xk, nm, ot, dt, xn, ka, kl, kc2⟩ kx = R) := ⟨_, rfl⟩
        have HBX : Hid (Both w2 (AtDisk b B) (AtDisk a (Dsk.setF B (n - dn) kp)) [(.slice (some ⟨wr.heap.size, 0, none⟩) 6 6, (ActV.val ⟨xk, nm, ot, dt, xn, ka, kl, kc2⟩).cells.toList)] (wr.alloc (.cells #[.int .u8 xk, .string nm, .string ot, .string dt, .int .i64 xn, .slice ka kl kc2] 34))) :=
          (HL0.out.swap.add (below_alloc wr (.cells #[.int .u8 xk, .string nm, .string ot, .string dt, .int .i64 xn, .slice ka kl kc2] 34)) (Reads.lit (w := wr) (ActV.val ⟨xk, nm, ot, dt, xn, ka, kl, kc2⟩).cells.toList 34) (fun k e => Nat.le_of_eq (Option.some.inj e)))
        go_wp2_with fail
        generalize wr.heap.size = bx at *
        refine (both_bytes HBX HBD.out).mono ?_
        rintro e wb ⟨Aw, cw, rfl, HB1⟩
        go_wp2_with fail
        refine (both_names HB1).mono ?_
        rintro e wn ⟨An, cn, rfl, HB2'⟩
        clear HBX HB1 HL0 HL x0 x1 x2 x3 x4 x5
        obtain ⟨y0, y1, y2, y3, y4, y5⟩ := box_reads (HB2'.out.reads mem2)
        have HB3 := Lib.hid HB2'.out.swap
        clear HB2'
        go_upto_region 21 with fail
        go_cut [17, 18] (fun s17 s18 wx => s17 = .int .i64 ra ∧ s18 = .int .i64 r ∧ Hid (Both w2 (AtDisk a A') (AtDisk b { B with fs := fs' }) [(.slice An B.fs.length cn, (Dsk.names B.fs).map Value.string), (.slice Aw B.fs.length cw, B.fs.map flV), (.slice (some ⟨bx, 0, none⟩) 6 6, (ActV.val ⟨xk, nm, ot, dt, xn, ka, kl, kc2⟩).cells.toList)] wx))
        case first =>
          have HD1 : Hid (∀ W, Still wn W → Calls Try.prog 13 #[.pointer (some ⟨a, 0, none⟩), .agg #[.int .u8 xk, .string nm, .string ot, .string dt, .int .i64 xn, .slice ka kl kc2]] W fun e w' => e = .returned (.int .i64 ra) ∧ actBox w' bx ⟨xk, nm, ot, dt, xn, ka, kl, kc2⟩ ∧ Hid (Both w2 (AtDisk a A') (AtDisk b B) [(.slice An B.fs.length cn, (Dsk.names B.fs).map Value.string), (.slice Aw B.fs.length cw, B.fs.map flV), (.slice (some ⟨bx, 0, none⟩) 6 6, (ActV.val ⟨xk, nm, ot, dt, xn, ka, kl, kc2⟩).cells.toList)] w')) := fun W hW =>
            does_box _ kx (Lib.hid (HB3.out.still hW)) mem2 HX.out (by have := HBS.out; show B.starts ≤ _; omega) HRA.out
          have HD2 : Hid (∀ W, Hid (Both w2 (AtDisk a A') (AtDisk b B) [(.slice An B.fs.length cn, (Dsk.names B.fs).map Value.string), (.slice Aw B.fs.length cw, B.fs.map flV), (.slice (some ⟨bx, 0, none⟩) 6 6, (ActV.val ⟨xk, nm, ot, dt, xn, ka, kl, kc2⟩).cells.toList)] W) → Calls Try.prog 13 #[.pointer (some ⟨b, 0, none⟩), .agg #[.int .u8 xk, .string nm, .string ot, .string dt, .int .i64 xn, .slice ka kl kc2]] W fun e w' => e = .returned (.int .i64 r) ∧ actBox w' bx ⟨xk, nm, ot, dt, xn, ka, kl, kc2⟩ ∧ Hid (Both w2 (AtDisk b { B with fs := fs' }) (AtDisk a A') [(.slice An B.fs.length cn, (Dsk.names B.fs).map Value.string), (.slice Aw B.fs.length cw, B.fs.map flV), (.slice (some ⟨bx, 0, none⟩) 6 6, (ActV.val ⟨xk, nm, ot, dt, xn, ka, kl, kc2⟩).cells.toList)] w')) := fun W hW =>
            does_box _ kx (Lib.hid hW.out.swap) mem2 HX.out (by have := HBS.out; omega) HRB.out
          have HST1 := Lib.hid (show Still wn wn.drew from (Still.refl wn).drewN 1)
          clear HSIM HMID HRA HRB HX HLI HI2 HA2 HSM HB3 HK2 hkx hfew
          go_region_with (first
            | ((go_at_call 13; ((with_reducible refine (HD1.out _ HST1.out).mono ?_); rintro e w' ⟨rfl, ⟨z0, z1, z2, z3, z4, z5⟩, HN⟩)))
            | ((go_at_call 13; ((with_reducible refine (HD2.out _ (by assumption)).mono ?_); rintro e w'' ⟨rfl, ⟨v0, v1, v2, v3, v4, v5⟩, HN2⟩))))
          all_goals
            go_wp2_with fail
            go_meet
            case rel => exact ⟨rfl, rfl, HN2.out.swap⟩
        case rest =>
          obtain ⟨rfl, rfl, H21⟩ := hcut
          clear y0 y1 y2 y3 y4 y5 HB3
          by_cases hr : r = 0
          · subst hr
            by_cases hdl : dn < n
            · obtain ⟨k, hk⟩ : ∃ k, n - dn = k + 1 := ⟨n - dn - 1, by omega⟩
              have h1 := HRA.out
              rw [hk, (HSIM.out.good rfl).1 k kp] at h1
              injection h1 with h1 h2
              subst h1
              subst h2
              have HNK : Hid (n - (dn + 1) = k) := by unfold Hid; omega
              have t3 : decide ((dn : Int) < (n : Int)) = true := decide_eq_true (by omega)
              clear hk HRA HMID
              go_wp2_with fail
              go_roundg (more.length - (i + 1))
              case measure => omega
              case rel => exact ⟨i + 1, dn + 1, { B with fs := fs' }, by omega, by go_num, by go_num, by omega, by omega, rfl, by rw [HNK.out]; exact H21.out.fewer (fun p hp => by cases hp), HBD.out, HBF.out, HBS.out⟩
            · obtain rfl : dn = n := by omega
              have h1 := HRA.out
              rw [Nat.sub_self, (HSIM.out.good rfl).2 kp] at h1
              injection h1 with h1 h2
              subst h1
              subst h2
              have HMI := Lib.hid (HMID.out rfl)
              have t3 : decide ((dn : Int) < (dn : Int)) = false := decide_eq_false (by omega)
              clear HRA HMID hdl
              go_wp2_with fail
              refine (both_up (b := true) H21 rfl).mono ?_
              rintro e w30 ⟨rfl, rfl⟩
              go_wp2_with fail
              refine (both_start H21 (by have := HBS.out; show B.starts ≤ _; omega) (Dsk.start_again { B with fs := mid } kp)).mono ?_
              rintro e w31 ⟨rfl, H31⟩
              clear H21
              have HFC : Hid ((Dsk.again { B with fs := mid } kp).fs = Dsk.crashed kp (if xk % 12 < 4 then Dsk.addTo B.fs nm dt else B.fs)) := by
                rw [← HMI.out]; rfl
              have hfew3 := H31.out.good.few
              have hroom3 := H31.out.good.room
              have hcap3 := H31.out.good.cap1
              go_wp2_with fail
              refine (both_bytes H31 rfl).mono ?_
              rintro e w32 ⟨A19, c19, rfl, H32⟩
              go_wp2_with fail
              refine (both_names H32).mono ?_
              rintro e w33 ⟨A20, c20, rfl, H33⟩
              clear H31 H32 HSIM HRB HMI
              have HLA : Hid (∀ g ∈ (Dsk.again { B with fs := mid } kp).fs, ∃ L, g.data = L.take g.data.length ∧ g.data.length ≤ L.length ∧ ((xk % 12 < 4 ∧ g.name = nm ∧ L = (Dsk.look B.fs g.name).1 ++ dt.data.toList) ∨ (¬ (xk % 12 < 4 ∧ g.name = nm) ∧ Dsk.look B.fs g.name = (L, true)))) := fun g hg => by
                rw [HFC.out] at hg
                exact Dsk.left_of (x := ⟨xk, nm, ot, dt, xn, ka, kl, kc2⟩) HRI.out hg
              clear HFC
              generalize Dsk.again { B with fs := mid } kp = E at *
              go_wp2_with fail
              go_loopg [6, 21, 22, 23] E.fs.length (fun kx s6 s21 s22 s23 wx => ∃ j : Nat, j ≤ E.fs.length ∧ s21 = .int .i64 (j : Int) ∧ E.fs.length - j ≤ kx ∧ s6 = .bool false ∧ Hid (Below w33.heap.size w33 wx))
              case atStart => exact ⟨0, Nat.zero_le _, rfl, by omega, rfl, Below.refl _ _⟩
              case round =>
                obtain ⟨j, hj, rfl, hkj, rfl, HW⟩ := hrel
                by_cases hlt2 : j < E.fs.length
                · have HB := Lib.hid (H33.out.below HW.out)
                  obtain ⟨b20, o20, rfl, y20⟩ := (HB.out.reads mem0).at_ (i := j) (x := .string E.fs[j].name) (by simpa [Dsk.names] using hlt2) (by simp [Dsk.names, List.getD, hlt2])
                  obtain ⟨b19, o19, rfl, y19⟩ := (HB.out.reads mem1).at_ (i := j) (x := .string ⟨E.fs[j].data.toArray⟩) (by simp [hlt2]) (by simp [flV, List.getD, hlt2])
                  have hmem := List.getElem_mem hlt2
                  have hgl : E.fs[j].data.length ≤ Dsk.total E.fs := by
                    have h1 : [E.fs[j]].Sublist E.fs := List.singleton_sublist.2 hmem
                    have h2 := Dsk.total_sublist h1
                    simpa [Dsk.total] using h2
                  have HLO := Lib.hid (HLA.out _ hmem)
                  have HLS := Lib.hid (Dsk.look_size HRI.out E.fs[j].name)
                  clear hmem
                  have hlk2 : (j : Int) < (E.fs.length : Int) := by omega
                  have h16 : (j : Int) < 16 := by omega
                  generalize E.fs[j] = g at *
                  obtain ⟨gn, gd, gu⟩ := g
                  simp only at y20 y19 hgl HLO HLS
                  obtain ⟨⟨ld, lb⟩, HLF⟩ : ∃ R, Hid (Dsk.look B.fs gn = R) := ⟨_, rfl⟩
                  have hf2 : B.fs.length ≤ 1000000 := by omega
                  go_wp2_with fail
                  refine (old_any B.fs HRI.out gn (HB.out.reads mem2) (HB.out.reads mem3) hf2).mono ?_
                  rintro e wo ⟨he, hst⟩
                  rw [HLF.out] at he HLS
                  subst he
                  have HO := Lib.hid hst
                  have y20 := (hst.cell ⟨b20, o20 + j, none⟩).trans y20
                  have y19 := (hst.cell ⟨b19, o19 + j, none⟩).trans y19
                  have HB2x := Lib.hid (HB.out.still hst)
                  obtain ⟨z0, z1, z2, z3, z4, z5⟩ := box_reads (HB2x.out.reads mem4)
                  simp only at z0 z1 z2 z3 z4 z5
                  clear hst HB z2 z4 z5
                  rw [HLF.out] at HLO
                  obtain ⟨L, hL1, hL2, hL3⟩ := HLO.out
                  have HL1 := Lib.hid hL1
                  have HL2 := Lib.hid hL2
                  have HL3 := Lib.hid hL3
                  have HDT := Lib.hid (HLI.out.2.2.1)
                  clear hL1 hL2 hL3 HLO HLF
                  simp only at HDT HLS HL3
                  obtain ⟨tb, HTB⟩ : ∃ tb, Hid (decide (xk % 12 < 4 ∧ gn = nm) = tb) := ⟨_, rfl⟩
                  go_upto_region 37 with fail
                  go_cut [162] (fun s wx => s = .bool tb ∧ Hid (Still wo wx))
                  case first =>
                    by_cases h4 : xk % 12 < 4
                    · have t5 : decide (xk % 12 < 4) = true := decide_eq_true h4
                      have HT2 : Hid ((gn.toList == nm.toList) = tb) := by
                        rw [← HTB.out]
                        by_cases e : gn = nm
                        · subst e; simp [h4]; trivial
                        · rw [beq_eq_false_iff_ne.2 fun e2 => e (Dsk.tl_inj e2)]; simp [e]; trivial
                      have HH4 := Lib.hid h4
                      clear h4
                      go_wp2_with fail
                      go_quiet (fail)
                      go_wp2_with fail
                      go_meet
                      case rel => exact ⟨by rw [HT2.out], (Still.refl _).drewN _⟩
                    · have t5 : decide (xk % 12 < 4) = false := decide_eq_false h4
                      have htb : tb = false := by rw [← HTB.out]; simp [h4]
                      subst htb
                      go_wp2_with fail
                      go_quiet (fail)
                      go_wp2_with fail
                      go_meet
                      case rel => exact ⟨rfl, (Still.refl _).drewN _⟩
                  case rest =>
                    obtain ⟨rfl, HC⟩ := hcut
                    have y20 := (HC.out.cell ⟨b20, o20 + j, none⟩).trans y20
                    have y19 := (HC.out.cell ⟨b19, o19 + j, none⟩).trans y19
                    have z3 := (HC.out.cell ⟨bx, 3, none⟩).trans z3
                    clear z0 z1
                    go_upto_if 162 with fail
                    go_cut [22, 23] (fun s22 s23 wx => s22 = .string ⟨L.toArray⟩ ∧ s23 = .bool true ∧ Hid (wx = wc))
                    case first =>
                      cases tb
                      · have h5 : ¬ (xk % 12 < 4 ∧ gn = nm) := of_decide_eq_false HTB.out
                        rcases HL3.out with ⟨q1, q2, _⟩ | ⟨_, q2⟩
                        · exact absurd ⟨q1, q2⟩ h5
                        · injection q2 with e1 e2
                          subst e1 e2
                          clear h5
                          go_wp2_with fail
                          go_meet
                          case rel => exact ⟨rfl, rfl, rfl⟩
                      · have h5 : xk % 12 < 4 ∧ gn = nm := of_decide_eq_true HTB.out
                        rcases HL3.out with ⟨_, _, q3⟩ | ⟨q1, _⟩
                        · have HE : Hid ((⟨ld.toArray⟩ : ByteArray) ++ dt = ⟨L.toArray⟩) := by
                            rw [q3]; exact append_text ld dt
                          have hs1 : (⟨ld.toArray⟩ : ByteArray).size ≤ 1048576 := by
                            have h6 := HLS.out
                            have h7 := HCAP.out
                            have h8 : (⟨ld.toArray⟩ : ByteArray).size = ld.length := by simp [ByteArray.size]
                            omega
                          have hs2 : dt.size ≤ 5000 := HDT.out
                          generalize (⟨ld.toArray⟩ : ByteArray) = Z at *
                          clear h5 q3
                          go_wp2_with fail
                          go_meet
                          case rel => exact ⟨by rw [HE.out], rfl, rfl⟩
                        · exact absurd h5 q1
                    case rest =>
                      obtain ⟨rfl, rfl, HC2⟩ := hcut
                      have hwc := HC2.out
                      subst hwc
                      have g1 : (⟨gd.toArray⟩ : ByteArray).size ≤ (⟨L.toArray⟩ : ByteArray).size := by
                        have := HL2.out
                        simpa [ByteArray.size] using this
                      have g3 : (((⟨L.toArray⟩ : ByteArray).extract 0 (⟨gd.toArray⟩ : ByteArray).size).toList == (⟨gd.toArray⟩ : ByteArray).toList) = true := by
                        have h6 := HL1.out
                        have h7 : (⟨gd.toArray⟩ : ByteArray).size = gd.length := by simp [ByteArray.size]
                        rw [h7, ← take_text, ← h6]
                        exact beq_self_eq_true _
                      have g4 : (⟨gd.toArray⟩ : ByteArray).size ≤ 1048576 := by
                        have h7 : (⟨gd.toArray⟩ : ByteArray).size = gd.length := by simp [ByteArray.size]
                        omega
                      clear hgl HL1 HL2 HL3 HLS
                      generalize (⟨gd.toArray⟩ : ByteArray) = Z at *
                      generalize (⟨L.toArray⟩ : ByteArray) = S at *
                      have g2 : decide ((S.size : Int) < (Z.size : Int)) = false := decide_eq_false (by omega)
                      have g5 : (Z.size : Int) ≤ (S.size : Int) := by omega
                      go_wp2_with fail
                      go_quiet (fail)
                      go_wp2_with fail
                      go_roundg (E.fs.length - (j + 1))
                      case measure => omega
                      case rel => exact ⟨j + 1, by omega, by go_num, by omega, rfl, HW.out.trans ((HO.out _).trans ((HC.out _).trans (((Still.refl _).drewN _) _)))⟩
                · obtain rfl : j = E.fs.length := by omega
                  have hlk2 : ¬ ((E.fs.length : Int) < (E.fs.length : Int)) := by omega
                  have H34 := Lib.hid (H33.out.below HW.out)
                  go_wp2_with fail
                  refine (both_works H34).mono ?_
                  rintro e w35 ⟨rfl, H35⟩
                  go_wp2_with fail
                  go_ret
                  exact ⟨rfl, HB2.out.trans (H35.out.bel.mono HB2.out.size)⟩
          · have HBAD := Lib.hid (HSIM.out.bad hr)
            have h1 := HRA.out
            rw [HBAD.out.2] at h1
            injection h1 with h1 h2
            subst h1
            subst h2
            have h3 := HBAD.out.1
            subst h3
            have t4 : (r == 0) = false := by simp [hr]
            clear HRA HMID HBAD HSIM HRB
            by_cases hdl : dn < n
            · have t3 : decide ((dn : Int) < (n : Int)) = true := decide_eq_true (by omega)
              go_wp2_with fail
              go_roundg (more.length - (i + 1))
              case measure => omega
              case rel => exact ⟨i + 1, dn, B, by omega, by go_num, rfl, hdn, by omega, rfl, H21.out.fewer (fun p hp => by cases hp), HBD.out, HBF.out, HBS.out⟩
            · have t3 : decide ((dn : Int) < (n : Int)) = false := decide_eq_false (by omega)
              go_wp2_with fail
              go_roundg (more.length - (i + 1))
              case measure => omega
              case rel => exact ⟨i + 1, dn, B, by omega, by go_num, rfl, hdn, by omega, rfl, H21.out.fewer (fun p hp => by cases hp), HBD.out, HBF.out, HBS.out⟩
    · obtain rfl : i = more.length := by omega
      have hlk : ¬ ((more.length : Int) < (more.length : Int)) := by omega
      obtain ⟨hL, hBd, hBf, hBs⟩ := HL.out
      have H1 := Lib.hid hL
      have HBD := Lib.hid hBd
      have hfew := hL.swap.good.few
      have hf2 : B.fs.length ≤ 1000000 := by omega
      clear hL hBd hBf hBs HL hfew
      go_wp2_with fail
      refine (both_bytes H1 HBD.out).mono ?_
      rintro e x1 ⟨A24, c24, rfl, G1⟩
      go_wp2_with fail
      refine (both_bytes (Lib.hid G1.out.swap) HBD.out).mono ?_
      rintro e x2 ⟨A26, c26, rfl, G2⟩
      go_wp2_with fail
      refine (both_names (Lib.hid G2.out.swap)).mono ?_
      rintro e x3 ⟨A31, c31, rfl, G3⟩
      go_wp2_with fail
      refine (both_names (Lib.hid G3.out.swap)).mono ?_
      rintro e x4 ⟨A32, c32, rfl, G4⟩
      go_wp2_with fail
      refine (both_same_texts G4 (Dsk.names B.fs) mem1 mem0 rfl rfl (by simp only [Dsk.names, List.length_map]; exact hf2)).mono ?_
      rintro e x5 ⟨rfl, G5⟩
      clear G1 G2 G3 G4
      go_wp2_with fail
      refine (both_same_texts G5 (B.fs.map fun f => (⟨f.data.toArray⟩ : ByteArray)) mem3 mem2 (flV_map _) (flV_map _) (by rw [List.length_map]; exact hf2)).mono ?_
      rintro e x6 ⟨rfl, G6⟩
      go_wp2_with fail
      refine (both_unsync (Lib.hid G6.out.swap)).mono ?_
      rintro e x7 ⟨A37, c37, rfl, G7⟩
      go_wp2_with fail
      refine (both_unsync (Lib.hid G7.out.swap)).mono ?_
      rintro e x8 ⟨A38, c38, rfl, G8⟩
      go_wp2_with fail
      refine (both_same_ints G8 (Dsk.unsynced B.fs) mem1 mem0 rfl rfl (by simp only [Dsk.unsynced, List.length_map]; exact hf2)).mono ?_
      rintro e x9 ⟨rfl, G9⟩
      clear G5 G6 G7 G8
      go_wp2_with fail
      refine (both_works G9).mono ?_
      rintro e x10 ⟨rfl, G10⟩
      go_wp2_with fail
      go_ret
      exact ⟨rfl, HB2.out.trans (G10.out.bel.mono HB2.out.size)⟩
end Go.Proofs.Ytdoajecpcepmiaa.diskFailW
