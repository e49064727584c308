/-
  The law MailSites: for every input the call returns true, and each argument reads afterwards as it read before. No condition.
-/
import Derived.Test.YtoipjnboekjjaaaDoorMlWorks
import Derived.Test.YtoipjnboekjjaaaDoorCards
import Derived.Test.YtoipjnboekjjaaaDoorTie
import Derived.Test.YtoipjnboekjjaaaDoorMlLaid
import Derived.WalkKit
import Derived.Deep.DeepHandedRow
import Derived.Lib.LaidTab
import Derived.ProofKit
import Derived.OpenShut
import Derived.ShutString
namespace Go.Proofs.YtoipjnboekjjaaaDoor.mailSitesW
open Go.RowKit
theorem may_sites {m : Ml} {n k : Int} (h : m.may n = true) : m.may k = decide (2 ≤ k ∧ k ≤ 7 ∧ m.fr < k ∧ m.tt < k) := by
  unfold Ml.may at h ⊢
  rw [Bool.and_eq_true] at h
  rw [h.2, Bool.and_true]
  have h1 := h.1
  simp only [Bool.and_eq_true, decide_eq_true_eq, isSite] at h1
  rw [Bool.eq_iff_iff]
  simp only [Bool.and_eq_true, decide_eq_true_eq, isSite]
  omega
set_option maxRecDepth 100000 in
set_option maxHeartbeats 8000000 in
theorem walk (m : Ml) (A : Option Addr) (c : Nat) (n k : Int) (w : World) (hA : AskM w) (hE : EsB w.heap.size w (.slice A m.es.length c) m.es) (_ : m.ints) (_ : (Lit.int .i64 n).wf) (_ : (Lit.int .i64 k).wf) :
    Calls Tryd.prog 8 #[m.v (.slice A m.es.length c), .int .i64 n, .int .i64 k] w fun e w' => e = .returned (.bool true) ∧ Below w.heap.size w w' := by
  obtain ⟨w0, HW0⟩ : ∃ w0, Hid (w.alloc (.cells (m.cells (.slice A m.es.length c)).toArray 45) = w0) := ⟨_, Lib.hid rfl⟩
  have hb0 : Below w.heap.size w w0 := by rw [← HW0.out]; exact (Below.refl _ _).alloc (Nat.le_refl _) _
  have X0 : MlBox w0 w.heap.size m (.slice A m.es.length c) := by rw [← HW0.out]; exact MlBox.new _ _ _
  have hs0 : w.heap.size < w0.heap.size := by rw [← HW0.out]; simp
  have HB0 := Lib.hid hb0
  have HLD := Lib.hid (fun X (hX : Below w0.heap.size w0 X) => (X0.bel hX hs0).load)
  have HCF := Lib.hid (fun X (hX : Below w0.heap.size w0 X) => And.intro ((X0.bel hX hs0).cell 1) ((X0.bel hX hs0).cell 2))
  have c9 := X0.cell 9
  simp only [Ml.cells, List.getElem?_cons_zero, List.getElem?_cons_succ] at c9 HCF
  have HWK := Lib.hid (fun X (hX : Below w.heap.size w X) => mlWorks_any (hA.keep hX))
  have HCK := Lib.hid (fun (hn : m.es.length ≤ 500) X (hX : Below w.heap.size w X) => mlCheck_any m n A c (hA.keep hX) (EsB.eq_1 .. ▸ RdB.below hE hX (Nat.le_refl _)) hX.size (by omega))
  have HEN := Lib.hid (fun (hn : m.es.length ≤ 500) i X (hX : Below w.heap.size w X) => mlEncode_any m i A c (hA.keep hX) (RdB.mono (RdB.below hE hX (Nat.le_refl _)) hX.size) (by omega))
  have hlen : m.es.length ≤ 9223372036854775807 := by
    obtain ⟨_, _, _, h1, h2, -⟩ := hE.len
    unfold maxLen at h2
    omega
  have hd0 := HLD.out w0 (Below.refl _ _)
  have HMJ := Lib.hid (fun X => majority_any k X)
  simp only [Ml.v] at *
  clear hA hE hb0 X0
  by_cases hbig : 500 < m.es.length
  · have t : decide (500 < (m.es.length : Int)) = true := decide_eq_true (by omega)
    clear HEN HCK HLD HCF HMJ
    go_enter Tryd.func8, Tryd.ntmps8
    go_wp2_with (rw [HW0.out])
    refine (HWK.out _ HB0.out).mono ?_
    rintro e w1 ⟨rfl, hb1⟩
    go_wp2_with fail
    go_ret
    exact ⟨rfl, HB0.out.trans (hb1.mono HB0.out.size)⟩
  have t : decide (500 < (m.es.length : Int)) = false := decide_eq_false (by omega)
  have HC2 := Lib.hid (HCK.out (by omega))
  have HE2 := Lib.hid (HEN.out (by omega))
  clear HCK HEN hbig
  rcases hmay : m.may n with _ | _
  · rw [show m.err n = 2 by unfold Ml.err; rw [hmay]; rfl] at HC2
    clear HE2 HLD HCF HMJ hmay
    go_enter Tryd.func8, Tryd.ntmps8
    go_wp2_with (first | rw [HW0.out] | (refine wpList_load_want (by kernel_rfl) 45 _ rfl ⟨w.heap.size, 0, none⟩ rfl hd0 ?_))
    refine (HC2.out _ HB0.out).mono ?_
    rintro e w1 ⟨rfl, hb1⟩
    have HB1 := Lib.hid (HB0.out.trans (hb1.mono HB0.out.size))
    clear hb1
    go_wp2_with fail
    refine (HWK.out _ HB1.out).mono ?_
    rintro e w2 ⟨rfl, hb2⟩
    go_wp2_with fail
    go_ret
    exact ⟨rfl, HB1.out.trans (hb2.mono HB1.out.size)⟩
  rw [show m.err n = 0 by unfold Ml.err; rw [hmay]; rfl] at HC2
  have HK := Lib.hid (may_sites (k := k) hmay)
  obtain ⟨S, HS⟩ : ∃ S : ByteArray, Hid (S = ⟨m.enc.toArray⟩) := ⟨_, Lib.hid rfl⟩
  have HEn := Lib.hid (HE2.out n)
  rw [show m.encR n = .tuple #[.string S, .int .i64 0] by unfold Ml.encR; rw [hmay, HS.out]; rfl] at HEn
  have hss : (S.toList == S.toList) = true := beq_self_eq_true _
  have HEk := Lib.hid (HE2.out k)
  have hf0 : 0 ≤ m.fr ∧ 0 ≤ m.tt := by
    unfold Ml.may at hmay
    simp only [Bool.and_eq_true, decide_eq_true_eq, isSite] at hmay
    omega
  clear HE2 hmay
  by_cases hk : 2 ≤ k ∧ k ≤ 7 ∧ m.fr < k ∧ m.tt < k
  · have hmk : m.may k = true := HK.out.trans (decide_eq_true hk)
    rw [show m.encR k = .tuple #[.string S, .int .i64 0] by unfold Ml.encR; rw [hmk, HS.out]; rfl] at HEk
    have hmj : majN k = k / 2 + 1 := if_pos ⟨hk.1, hk.2.1⟩
    obtain ⟨q, hq, hq0⟩ : ∃ q, k / 2 + 1 = q ∧ 0 < q := ⟨_, rfl, by omega⟩
    rw [hmj, hq] at HMJ
    have t0 : decide (0 < q) = true := decide_eq_true hq0
    have t1 : decide (m.fr < k) = true := decide_eq_true hk.2.2.1
    have t2 : decide (m.tt < k) = true := decide_eq_true hk.2.2.2
    clear hmk hmj hq hk HK HS hf0
    go_enter Tryd.func8, Tryd.ntmps8
    go_wp2_with (first | rw [HW0.out] | (refine wpList_load_want (by kernel_rfl) 45 _ rfl ⟨w.heap.size, 0, none⟩ rfl hd0 ?_))
    refine (HC2.out _ HB0.out).mono ?_
    rintro e w1 ⟨rfl, hb1⟩
    have HB01 := Lib.hid hb1
    have HB1 := Lib.hid (HB0.out.trans (hb1.mono HB0.out.size))
    clear hb1 hd0
    have hd1 := HLD.out w1 HB01.out
    go_wp2_with (refine wpList_load_run rfl 45 _ rfl ⟨w.heap.size, 0, none⟩ rfl hd1 ?_)
    refine (HEn.out _ HB1.out).mono ?_
    rintro e w2 ⟨rfl, hb2⟩
    have HB02 := Lib.hid (HB01.out.trans (hb2.mono HB01.out.size))
    have HB2 := Lib.hid (HB1.out.trans (hb2.mono HB1.out.size))
    clear hb2 hd1
    have hd2 := HLD.out w2 HB02.out
    go_wp2_with (refine wpList_load_run rfl 45 _ rfl ⟨w.heap.size, 0, none⟩ rfl hd2 ?_)
    refine (HEk.out _ HB2.out).mono ?_
    rintro e w3 ⟨rfl, hb3⟩
    have HB03 := Lib.hid (HB02.out.trans (hb3.mono HB02.out.size))
    have HB3 := Lib.hid (HB2.out.trans (hb3.mono HB2.out.size))
    clear hb3 hd2
    obtain ⟨c1, c2⟩ := HCF.out w3 HB03.out
    go_wp2_with fail
    refine (HMJ.out _).mono ?_
    rintro e w4 ⟨rfl, rfl⟩
    go_wp2_with fail
    refine (HWK.out _ HB3.out).mono ?_
    rintro e w5 ⟨rfl, hb5⟩
    go_wp2_with fail
    go_ret
    exact ⟨rfl, HB3.out.trans (hb5.mono HB3.out.size)⟩
  · have hmk : m.may k = false := HK.out.trans (decide_eq_false hk)
    rw [show m.encR k = .tuple #[.string ⟨#[]⟩, .int .i64 2] by unfold Ml.encR; rw [hmk]; rfl] at HEk
    clear hmk
    go_enter Tryd.func8, Tryd.ntmps8
    go_wp2_with (first | rw [HW0.out] | (refine wpList_load_want (by kernel_rfl) 45 _ rfl ⟨w.heap.size, 0, none⟩ rfl hd0 ?_))
    refine (HC2.out _ HB0.out).mono ?_
    rintro e w1 ⟨rfl, hb1⟩
    have HB01 := Lib.hid hb1
    have HB1 := Lib.hid (HB0.out.trans (hb1.mono HB0.out.size))
    clear hb1 hd0
    have hd1 := HLD.out w1 HB01.out
    go_wp2_with (refine wpList_load_run rfl 45 _ rfl ⟨w.heap.size, 0, none⟩ rfl hd1 ?_)
    refine (HEn.out _ HB1.out).mono ?_
    rintro e w2 ⟨rfl, hb2⟩
    have HB02 := Lib.hid (HB01.out.trans (hb2.mono HB01.out.size))
    have HB2 := Lib.hid (HB1.out.trans (hb2.mono HB1.out.size))
    clear hb2 hd1
    have hd2 := HLD.out w2 HB02.out
    go_wp2_with (refine wpList_load_run rfl 45 _ rfl ⟨w.heap.size, 0, none⟩ rfl hd2 ?_)
    refine (HEk.out _ HB2.out).mono ?_
    rintro e w3 ⟨rfl, hb3⟩
    have HB03 := Lib.hid (HB02.out.trans (hb3.mono HB02.out.size))
    have HB3 := Lib.hid (HB2.out.trans (hb3.mono HB2.out.size))
    clear hb3 hd2
    obtain ⟨c1, c2⟩ := HCF.out w3 HB03.out
    by_cases h27 : 2 ≤ k ∧ k ≤ 7
    · have hmj : majN k = k / 2 + 1 := if_pos h27
      obtain ⟨q, hq, hq0⟩ : ∃ q, k / 2 + 1 = q ∧ 0 < q := ⟨_, rfl, by omega⟩
      rw [hmj, hq] at HMJ
      have t0 : decide (0 < q) = true := decide_eq_true hq0
      by_cases hfk : m.fr < k
      · have t1 : decide (m.fr < k) = true := decide_eq_true hfk
        have t2 : decide (m.tt < k) = false := decide_eq_false (by omega)
        clear hmj hq h27 hfk hk HK HS hf0
        go_wp2_with fail
        refine (HMJ.out _).mono ?_
        rintro e w4 ⟨rfl, rfl⟩
        go_wp2_with fail
        refine (HWK.out _ HB3.out).mono ?_
        rintro e w5 ⟨rfl, hb5⟩
        go_wp2_with fail
        go_ret
        exact ⟨rfl, HB3.out.trans (hb5.mono HB3.out.size)⟩
      · have t1 : decide (m.fr < k) = false := decide_eq_false hfk
        clear hmj hq h27 hfk hk HK HS hf0
        go_wp2_with fail
        refine (HMJ.out _).mono ?_
        rintro e w4 ⟨rfl, rfl⟩
        go_wp2_with fail
        refine (HWK.out _ HB3.out).mono ?_
        rintro e w5 ⟨rfl, hb5⟩
        go_wp2_with fail
        go_ret
        exact ⟨rfl, HB3.out.trans (hb5.mono HB3.out.size)⟩
    · rw [show majN k = 0 from if_neg h27] at HMJ
      clear h27 hk HK HS hf0
      go_wp2_with fail
      refine (HMJ.out _).mono ?_
      rintro e w4 ⟨rfl, rfl⟩
      go_wp2_with fail
      refine (HWK.out _ HB3.out).mono ?_
      rintro e w5 ⟨rfl, hb5⟩
      go_wp2_with fail
      go_ret
      exact ⟨rfl, HB3.out.trans (hb5.mono HB3.out.size)⟩
end Go.Proofs.YtoipjnboekjjaaaDoor.mailSitesW

namespace Go.Proofs.YtoipjnboekjjaaaDoor.mailSites
open Go.ChangeShapes Go.WideShapes Go.ChangeAt Go.RowKit
open Go.ChangeMaps (open_string shut_string)
theorem own : ownKnob Tryd.prog.godebug = none := by kernel_rfl
theorem laidOut : laidOutB Tryd.prog = true := by kernel_rfl
noncomputable def laidWorld (os : Os) : World :=
  { World.holding Tryd.prog os ⟨#[], #[], []⟩ with heap := ((((((((((World.holding Tryd.prog os ⟨#[], #[], []⟩).heap.modify 0 fun
      | .cells _ t frozen => .cells #[.int .i64 1, .int .i64 2147483647, .int .i64 0, .int .i64 3, .int .i64 (-1), .int .i64 2147483647, .int .i64 1, .int .i64 4, .int .i64 (-1048576), .int .i64 1048576] t frozen
      | o => o).modify 1 fun
      | .cells _ t frozen => .cells #[.int .i64 0, .int .i64 3] t frozen
      | o => o).modify 2 fun
      | .cells _ t frozen => .cells #[.int .i64 1, .int .i64 1048576] t frozen
      | o => o).modify 4 fun
      | .cells _ t frozen => .cells #[.int .i64 0, .int .i64 1048576] t frozen
      | o => o).modify 3 fun
      | .cells _ t frozen => .cells #[.int .i64 0, .int .i64 64] t frozen
      | o => o).modify 6 fun
      | .cells _ t frozen => .cells #[.int .i64 0, .int .i64 63] t frozen
      | o => o).modify 5 fun
      | .cells _ t frozen => .cells #[.int .i64 0, .int .i64 256] t frozen
      | o => o).modify 7 fun
      | .cells _ t frozen => .cells #[.int .u64 0, .int .u64 35, .int .u64 119, .int .u64 3, .int .u64 123, .int .u64 51, .int .u64 19, .int .u64 128, .int .u64 257, .int .u64 3, .int .u64 3] t frozen
      | o => o).modify 8 fun
      | .cells _ t frozen => .cells #[.int .u64 1, .int .i64 0, .int .i64 3, .int .u64 2, .int .i64 1, .int .i64 1048576, .int .u64 4, .int .i64 0, .int .i64 1048576, .int .u64 8, .int .i64 0, .int .i64 64, .int .u64 16, .int .i64 0, .int .i64 64, .int .u64 32, .int .i64 0, .int .i64 1073741824] t frozen
      | o => o) }
theorem laid_met (os : Os) : laidMet Tryd.prog Rows.mailSitesRow.laid ((laidWorld os).forCall (fun _ _ => 0) ⟨#[], #[.agg #[.int .i64 0, .int .i64 0, .int .i64 0, .int .i64 0, .int .i64 0, .int .i64 0, .int .i64 0, .int .i64 0, .int .i64 0, .slice none 0 0, .int .i64 0, .int .i64 0, .int .i64 0, .int .i64 0, .int .i64 0, .int .i64 0, .int .i64 0, .int .i64 0], .int .i64 0, .int .i64 0], []⟩).memory :=
  laidMet_of_run' 8 (by kernel_rfl) (by kernel_rfl)
theorem reads (os : Os) {H : Type} (enc : TypeId × Value → H) : ∃ places, DataW.whole enc Tryd.prog ((laidWorld os).forCall (fun _ _ => 0) ⟨#[], #[.agg #[.int .i64 0, .int .i64 0, .int .i64 0, .int .i64 0, .int .i64 0, .int .i64 0, .int .i64 0, .int .i64 0, .int .i64 0, .slice none 0 0, .int .i64 0, .int .i64 0, .int .i64 0, .int .i64 0, .int .i64 0, .int .i64 0, .int .i64 0, .int .i64 0], .int .i64 0, .int .i64 0], []⟩).memory Tryd.f8.params.toList Rows.mailSitesSpec.vars false (#[.agg #[.int .i64 0, .int .i64 0, .int .i64 0, .int .i64 0, .int .i64 0, .int .i64 0, .int .i64 0, .int .i64 0, .int .i64 0, .slice none 0 0, .int .i64 0, .int .i64 0, .int .i64 0, .int .i64 0, .int .i64 0, .int .i64 0, .int .i64 0, .int .i64 0], .int .i64 0, .int .i64 0] : Array Value).toList 8 = some ([.agg [.lit (.int .i64 0), .lit (.int .i64 0), .lit (.int .i64 0), .lit (.int .i64 0), .lit (.int .i64 0), .lit (.int .i64 0), .lit (.int .i64 0), .lit (.int .i64 0), .lit (.int .i64 0), .nil, .agg [.lit (.int .i64 0), .lit (.int .i64 0), .lit (.int .i64 0), .lit (.int .i64 0), .lit (.int .i64 0)], .agg [.lit (.int .i64 0), .lit (.int .i64 0), .lit (.int .i64 0)]], .lit (.int .i64 0), .lit (.int .i64 0)], [], places) :=
  ⟨[], by kernel_rfl⟩
set_option maxRecDepth 100000 in
theorem lifted (os : Os) (started : os.Started) (H : Type) (enc : TypeId × Value → H) (F : Stop.Interp) :
    ReturnsInHanded {} Tryd.checked os 8 .any ((OpenSpec.ofChange Rows.mailSitesSpec).preRow enc Tryd.prog Tryd.f8 Rows.mailSitesRow.domain false Rows.mailSitesRow.laid) (((OpenSpec.ofChange Rows.mailSitesSpec).at F).post enc Tryd.prog Tryd.f8 false true false false) := by
  obtain ⟨places, hx⟩ := reads os enc
  refine returnsInHanded_of_row (C := Tryd.checked) (s := OpenSpec.ofChange Rows.mailSitesSpec) own started (by kernel_rfl) Tryd.func8
    (witness_row_at (enc := enc) (C := Tryd.checked) false (laidWorld os) #[.agg #[.int .i64 0, .int .i64 0, .int .i64 0, .int .i64 0, .int .i64 0, .int .i64 0, .int .i64 0, .int .i64 0, .int .i64 0, .slice none 0 0, .int .i64 0, .int .i64 0, .int .i64 0, .int .i64 0, .int .i64 0, .int .i64 0, .int .i64 0, .int .i64 0], .int .i64 0, .int .i64 0] rfl (by kernel_rfl) (by kernel_rfl) (by kernel_rfl)
      (OpenSpec.preRow_of_cond 8 hx (by kernel_rfl) (fun k hk => by cases hk) (by kernel_rfl) (laid_met os))) ?_
  intro W base args ds gs before hval0 hW _ _ hsz hL _ _
  have hAsk : AskM W := askM_of hL
  have hval : ∀ (j : Nat) t v, Tryd.f8.params[j]? = some t → args[j]? = some v → Value.okWide Tryd.prog W .any base t v := hval0
  have hW' := hW
  obtain ⟨p, q, hA0, hV, rfl, hfz, hnd⟩ := hW
  have hA : DataW.TrodAll enc Tryd.prog W 0 (fun _ => true) true Tryd.f8.params.toList args.toList ds p := hA0
  rw [Tryd.params8] at hA hval
  obtain ⟨v0, vs0, d0, ds0, p0, q0, hargs, rfl, rfl, h0, r0⟩ := trodAll_cons hA
  obtain ⟨v1, vs1, d1, ds1, p1, q1, rfl, rfl, rfl, h1, r1⟩ := trodAll_cons r0
  obtain ⟨v2, vs2, d2, ds2, p2, q2, rfl, rfl, rfl, h2, r2⟩ := trodAll_cons r1
  obtain ⟨rfl, rfl, rfl⟩ := trodAll_nil r2
  obtain rfl : args = #[v0, v1, v2] := by cases args; simp_all
  obtain ⟨rfl, rfl⟩ := trodVars_none hV
  obtain ⟨cs0, rfl, hsz0⟩ := okWide_struct Tryd.underlying45 (hval 0 45 v0 rfl rfl)
  have k0 := h0
  have lt0 : ∀ x ∈ p0, x.block < W.heap.size := by obtain ⟨m, hm⟩ := k0; exact DataW.trod_lt m _ _ _ hm
  obtain ⟨o0, A0, c0, hx0, e0, w0⟩ : ∃ (m : Ml) (A : Option Addr) (c : Nat), cs0.toList = m.cells (.slice A m.es.length c) ∧ EsB W.heap.size W (.slice A m.es.length c) m.es ∧ m.ints := by obtain ⟨fuel, hf⟩ := h0; exact open_ml hf
  obtain rfl : cs0 = (o0.cells (.slice A0 o0.es.length c0)).toArray := by rw [← hx0]
  obtain ⟨a1, rfl, rfl, rfl, w1⟩ := open_int Tryd.underlying3 (hval 1 3 v1 rfl rfl) h1
  obtain ⟨a2, rfl, rfl, rfl, w2⟩ := open_int Tryd.underlying3 (hval 2 3 v2 rfl rfl) h2
  clear hA0 hval0
  refine (mailSitesW.walk o0 A0 c0 a1 a2 W hAsk e0 w0 w1 w2).mono fun e W' ⟨he, bel⟩ => ?_
  subst he
  exact ⟨_, rfl, _, _, _, [], _, [], hW', trodAll_mk1 (shut_bool Tryd.underlying4 _), (trodAll_cons_mk (Below.trod laidOut (by kernel_rfl) (of_decide_eq_true (by kernel_rfl)) k0 bel lt0) (trodAll_cons_mk (shut_int Tryd.underlying3 w1) (trodAll_cons_mk (shut_int Tryd.underlying3 w2) trodAll_mk0))), rfl, bel.frame _, fun h => by cases h⟩
theorem said : Rows.MailSitesSaid :=
  OpenClaim.holds_of_cond 8 Tryd.f8 rfl rfl rfl rfl rfl rfl rfl ⟨rfl, rfl, rfl, rfl, rfl⟩ rfl rfl rfl rfl rfl (by kernel_rfl) Tryd.func8 (by kernel_rfl)
    (of_decide_eq_true (by kernel_rfl)) (by unfold Func.isWrapper; first | (rw [if_pos (by decide +kernel)]; kernel_rfl) | (rw [if_neg (by decide +kernel)]; exact ⟨rfl, rfl⟩))
    (fun os started H enc _ F => by rw [OpenClaim.pre_eq_preRow]; exact lifted os started H enc F)
theorem plain (f : FuncId) (fn : Func) (hf : Tryd.pinned.checked.prog.funcNamed "archipelago/archipelagolaw11.MailSites" = some f) (hfn : Tryd.pinned.checked.prog.funcs[f]? = some fn) :
    false = Tryd.pinned.checked.prog.looks [] ∧ ∀ (j : Nat) t, fn.params[j]? = some t → Tryd.pinned.checked.prog.wantsStandIn t = false := by
  obtain rfl : f = 8 := Option.some.inj ((show Tryd.prog.funcNamed "archipelago/archipelagolaw11.MailSites" = some 8 by kernel_rfl).symm.trans hf) |>.symm
  obtain rfl : fn = Tryd.f8 := (Option.some.inj (Tryd.func8.symm.trans hfn)).symm
  refine ⟨by kernel_rfl, fun j t ht => ?_⟩
  rw [Tryd.params8] at ht
  have hm := Array.mem_of_getElem? ht
  have ht' : t = 45 ∨ t = 3 := by simp at hm; omega
  rcases ht' with rfl | rfl
  · exact (show Tryd.prog.wantsStandIn 45 = false by kernel_rfl)
  · exact (show Tryd.prog.wantsStandIn 3 = false by kernel_rfl)
theorem proved : Rows.MailSitesCardSaid :=
  Claim7.holds_tied_plain_at .later [] _ _ _ _ said (fun _ h => by cases h) (by kernel_rfl) (fun _ h => by cases h) mailSites_row_tie rfl ⟨rfl, rfl⟩ (by kernel_rfl) rfl plain (by kernel_rfl)
end Go.Proofs.YtoipjnboekjjaaaDoor.mailSites
