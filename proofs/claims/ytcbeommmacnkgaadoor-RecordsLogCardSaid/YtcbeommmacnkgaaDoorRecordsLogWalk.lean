/-
  The walk of the law RecordsLog: it returns true and writes nothing that was there.
-/
import Derived.Test.YtcbeommmacnkgaaDoorRcWorks
import Derived.Deep.DeepCutAuto
namespace Go.Proofs.YtcbeommmacnkgaaDoor.recordsLogW
open Go.RowKit
theorem may_view (st fr : Int) (l : List En) (ok : Bool) (h : ok = decide (0 ≤ st ∧ st < 4 ∧ 0 ≤ fr ∧ fr ≤ 64 ∧ (l.length : Int) ≤ 64 - fr)) : (Rec.mk 2 st 9 0 fr 0 l []).may = (ok && l.all (En.may st)) := by
  subst h
  simp only [Rec.may, Rec.nums, List.all_nil, Bool.and_true]
  congr 1
  rw [Bool.eq_iff_iff, decide_eq_true_eq, decide_eq_true_eq]
  unfold numsM
  rw [List.length_nil]
  constructor <;> intro h <;> omega
theorem may_base (st fr : Int) (l : List En) (ok : Bool) (h : ok = decide (0 ≤ st ∧ st < 4 ∧ 0 ≤ fr ∧ fr ≤ 64 ∧ (l.length : Int) ≤ 64 - fr)) (h2 : (ok && l.all (En.may st)) = true) : (Rec.mk 4 st 0 0 0 (l.length : Int) l []).may = true := by
  subst h
  rw [Bool.and_eq_true, decide_eq_true_eq] at h2
  simp only [Rec.may, Rec.nums, List.all_nil, Bool.and_true]
  rw [Bool.and_eq_true, decide_eq_true_eq]
  refine ⟨?_, h2.2⟩
  have h3 := h2.1
  unfold numsM
  rw [List.length_nil]
  omega
theorem may_parts (st : Int) (x : En) : En.may st x = (decide (1 ≤ x.ep) && (decide (x.ep ≤ 1048576) && (decide (x.o.st = st) && x.o.may))) := by
  unfold En.may
  rw [Bool.eq_iff_iff]
  simp only [Bool.and_eq_true, decide_eq_true_eq]
  constructor
  · rintro ⟨⟨a, b⟩, c, d⟩; exact ⟨a, b, c, d⟩
  · rintro ⟨a, b, c, d⟩; exact ⟨⟨a, b⟩, c, d⟩
theorem all_next {α : Type} {f : α → Bool} {l : List α} {k : Nat} (ok : Bool) (hk : k < l.length) : (ok && (l.take (k + 1)).all f) = ((ok && (l.take k).all f) && f l[k]) := by
  rw [List.take_succ_eq_append_getElem hk, List.all_append]
  simp [Bool.and_assoc]
set_option maxRecDepth 100000 in
set_option maxHeartbeats 8000000 in
theorem walk (st fr : Int) (A : Option Addr) (c : Nat) (l : List En) (w : World) (hA : AskR w) (_ : (Lit.int .i64 st).wf = true) (_ : (Lit.int .i64 fr).wf = true) (hE : EsB w.heap.size w (.slice A l.length c) l) (_ : ∀ e ∈ l, IntsOk e.l) :
    Calls Tryd.prog 8 #[.int .i64 st, .int .i64 fr, .slice A l.length c] w fun e w' => e = .returned (.bool true) ∧ Below w.heap.size w w' := by
  have hle := hE.len
  obtain ⟨_, _, hv, h1, h2, -⟩ := hle
  injection hv with e1 e2 e3
  subst e1 e3
  clear e2
  unfold maxLen at h2
  by_cases hbig : 100 < l.length
  · have t : decide (100 < (l.length : Int)) = true := decide_eq_true (by omega)
    go_enter Tryd.func8, Tryd.ntmps8
    go_wp2_with fail
    go_ret
    exact ⟨rfl, Below.refl _ _⟩
  have tb : decide (100 < (l.length : Int)) = false := decide_eq_false (by omega)
  have hn100 : l.length ≤ 100 := by omega
  have HC := Lib.hid (fun X (hb : Below w.heap.size w X) k (hk : k < l.length) => EsB.cells (RdB.below hE hb (Nat.le_refl _)) hk)
  have HAK := Lib.hid (fun X (hX : Below w.heap.size w X) => hA.keep hX)
  have HW := Lib.hid (fun X (hX : Below w.heap.size w X) => recWorks_any (hA.keep hX))
  obtain ⟨ok, hok⟩ : ∃ ok, ok = decide (0 ≤ st ∧ st < 4 ∧ 0 ≤ fr ∧ fr ≤ 64 ∧ (l.length : Int) ≤ 64 - fr) := ⟨_, rfl⟩
  have HOK := Lib.hid hok
  have HV := Lib.hid (may_view st fr l ok hok)
  have HBS := Lib.hid (may_base st fr l ok hok)
  have HC2 := Lib.hid (fun X (hX : Below w.heap.size w X) => recCheck_any (Rec.mk 2 st 9 0 fr 0 l []) (hA.keep hX) (RdB.mono (RdB.below hE hX (Nat.le_refl _)) hX.size) (fdb_nil _ X) (by dsimp only; omega) (by simp))
  have HC4 := Lib.hid (fun X (hX : Below w.heap.size w X) => recCheck_any (Rec.mk 4 st 0 0 0 (l.length : Int) l []) (hA.keep hX) (RdB.mono (RdB.below hE hX (Nat.le_refl _)) hX.size) (fdb_nil _ X) (by dsimp only; omega) (by simp))
  have HE2 : Hid ((Rec.mk 2 st 9 0 fr 0 l []).err = if (Rec.mk 2 st 9 0 fr 0 l []).may then 0 else 2) := rfl
  have HE4 : Hid ((Rec.mk 4 st 0 0 0 (l.length : Int) l []).err = if (Rec.mk 4 st 0 0 0 (l.length : Int) l []).may then 0 else 2) := rfl
  clear hok hA hE
  simp only [Rec.v] at HC2 HC4
  generalize (Rec.mk 2 st 9 0 fr 0 l []).err = er2 at *
  generalize (Rec.mk 4 st 0 0 0 (l.length : Int) l []).err = er4 at *
  generalize (Rec.mk 2 st 9 0 fr 0 l []).may = my2 at *
  generalize (Rec.mk 4 st 0 0 0 (l.length : Int) l []).may = my4 at *
  go_enter Tryd.func8, Tryd.ntmps8
  go_upto_region 3 with fail
  go_cut [7] (fun s wx => s = .bool ok ∧ wx = w)
  case first =>
    by_cases p1 : 0 ≤ st
    · have t1 : decide (0 ≤ st) = true := decide_eq_true p1
      by_cases p2 : st < 4
      · have t2 : decide (st < 4) = true := decide_eq_true p2
        by_cases p3 : 0 ≤ fr
        · have t3 : decide (0 ≤ fr) = true := decide_eq_true p3
          by_cases p4 : fr ≤ 64
          · have t4 : decide (fr ≤ 64) = true := decide_eq_true p4
            by_cases p5 : (l.length : Int) ≤ 64 - fr
            · have t5 : decide ((l.length : Int) ≤ 64 - fr) = true := decide_eq_true p5
              have HF : Hid (ok = true) := by show _ = _; rw [HOK.out]; exact decide_eq_true ⟨p1, p2, p3, p4, p5⟩
              go_wp2_with fail
              go_meet
              case rel => exact ⟨by rw [HF.out], rfl⟩
            · have t5 : decide ((l.length : Int) ≤ 64 - fr) = false := decide_eq_false p5
              have HF : Hid (ok = false) := by show _ = _; rw [HOK.out]; exact decide_eq_false (by omega)
              go_wp2_with fail
              go_meet
              case rel => exact ⟨by rw [HF.out], rfl⟩
          · have t4 : decide (fr ≤ 64) = false := decide_eq_false p4
            have HF : Hid (ok = false) := by show _ = _; rw [HOK.out]; exact decide_eq_false (by omega)
            go_wp2_with fail
            go_meet
            case rel => exact ⟨by rw [HF.out], rfl⟩
        · have t3 : decide (0 ≤ fr) = false := decide_eq_false p3
          have HF : Hid (ok = false) := by show _ = _; rw [HOK.out]; exact decide_eq_false (by omega)
          go_wp2_with fail
          go_meet
          case rel => exact ⟨by rw [HF.out], rfl⟩
      · have t2 : decide (st < 4) = false := decide_eq_false p2
        have HF : Hid (ok = false) := by show _ = _; rw [HOK.out]; exact decide_eq_false (by omega)
        go_wp2_with fail
        go_meet
        case rel => exact ⟨by rw [HF.out], rfl⟩
    · have t1 : decide (0 ≤ st) = false := decide_eq_false p1
      have HF : Hid (ok = false) := by show _ = _; rw [HOK.out]; exact decide_eq_false (by omega)
      go_wp2_with fail
      go_meet
      case rel => exact ⟨by rw [HF.out], rfl⟩
  case rest =>
  obtain ⟨rfl, hw⟩ := hcut
  obtain rfl : w = wc := hw.symm
  clear tb
  go_wp2_with fail
  go_loopw [7, 8] (fun s i wr => ∃ k : Nat, k ≤ l.length ∧ i = .int .i64 k ∧ s = .bool (ok && (l.take k).all (En.may st)) ∧ Below w.heap.size w wr) (fun _ i _ => l.length - (intOf i).toNat)
  case atStart => exact ⟨0, Nat.zero_le _, rfl, by simp, Below.refl _ _⟩
  case round =>
    obtain ⟨k, hk, rfl, rfl, hb⟩ := hrel
    by_cases hlt : k < l.length
    · obtain ⟨b1, o1, c1, hv, hbb1, x0, x1, x2, x3, x4, x5⟩ := HC.out wr hb k hlt
      injection hv with e1 _ e3
      subst e1 e3
      have hii : (k : Int) < (l.length : Int) := by omega
      have HN := Lib.hid (all_next (f := En.may st) ok hlt)
      have HP := Lib.hid (may_parts st l[k])
      have HCH := Lib.hid (check_any l[k].o)
      have HER := Lib.hid (show l[k].o.err = if l[k].o.may then 0 else 2 from rfl)
      generalize l[k] = x at *
      generalize (ok && (l.take k).all (En.may st)) = okk at *
      generalize x.o.err = er at *
      generalize x.o.may = my at *
      obtain ⟨ep, id, os, ex, ki, ar⟩ := x
      dsimp only [Od.v] at *
      have HB := Lib.hid hb
      clear hb
      cases okk
      · have HF : Hid ((ok && (l.take (k + 1)).all (En.may st)) = false) := HN.out.trans (Bool.false_and _)
        go_wp2_with fail
        go_roundw
        case rel => exact ⟨k + 1, by omega, by go_num, by rw [HF.out], HB.out⟩
        case measure => simp [intOf]; omega
      · by_cases p1 : 1 ≤ ep
        · have t1 : decide (1 ≤ ep) = true := decide_eq_true p1
          by_cases p2 : ep ≤ 1048576
          · have t2 : decide (ep ≤ 1048576) = true := decide_eq_true p2
            by_cases p3 : os = st
            · subst p3
              have HF : Hid ((ok && (l.take (k + 1)).all (En.may os)) = my) := by show _ = _; rw [HN.out, HP.out, t1, t2]; simp
              have G := Lib.hid (HCH.out wr (HAK.out _ HB.out).1)
              cases my
              all_goals
                obtain rfl := HER.out
                go_wp2_with fail
                refine (G.out).mono ?_
                rintro e w2 ⟨rfl, hb2⟩
                have HB2 := Lib.hid (HB.out.trans (hb2.mono HB.out.size))
                clear hb2
                go_wp2_with fail
                go_roundw
                case rel => exact ⟨k + 1, by omega, by go_num, by rw [HF.out], HB2.out⟩
                case measure => simp [intOf]; omega
            · have t3 : decide (os = st) = false := decide_eq_false p3
              have HF : Hid ((ok && (l.take (k + 1)).all (En.may st)) = false) := by show _ = _; rw [HN.out, HP.out, t3]; simp
              go_wp2_with fail
              go_roundw
              case rel => exact ⟨k + 1, by omega, by go_num, by rw [HF.out], HB.out⟩
              case measure => simp [intOf]; omega
          · have t2 : decide (ep ≤ 1048576) = false := decide_eq_false p2
            have HF : Hid ((ok && (l.take (k + 1)).all (En.may st)) = false) := by show _ = _; rw [HN.out, HP.out, t2]; simp
            go_wp2_with fail
            go_roundw
            case rel => exact ⟨k + 1, by omega, by go_num, by rw [HF.out], HB.out⟩
            case measure => simp [intOf]; omega
        · have t1 : decide (1 ≤ ep) = false := decide_eq_false p1
          have HF : Hid ((ok && (l.take (k + 1)).all (En.may st)) = false) := by show _ = _; rw [HN.out, HP.out, t1]; simp
          go_wp2_with fail
          go_roundw
          case rel => exact ⟨k + 1, by omega, by go_num, by rw [HF.out], HB.out⟩
          case measure => simp [intOf]; omega
    · have HK : Hid (l.take k = l) := List.take_of_length_le (by omega)
      rw [HK.out]
      have HB := Lib.hid hb
      have HV2 := HV
      generalize (ok && l.all (En.may st)) = okn at *
      obtain rfl : my2 = okn := HV2.out
      clear hb
      go_wp2_with fail
      refine (HC2.out _ HB.out).mono ?_
      rintro e w2 ⟨rfl, hb2⟩
      have HB2 := Lib.hid (HB.out.trans (hb2.mono HB.out.size))
      clear hb2
      go_wp2_with fail
      refine (HC4.out _ HB2.out).mono ?_
      rintro e w3 ⟨rfl, hb3⟩
      have HB3 := Lib.hid (HB2.out.trans (hb3.mono HB2.out.size))
      clear hb3
      cases my2
      · obtain rfl := HE2.out
        cases my4
        all_goals
          obtain rfl := HE4.out
          go_wp2_with fail
          refine (HW.out _ HB3.out).mono ?_
          rintro e w4 ⟨rfl, hb4⟩
          have HB4 := Lib.hid (HB3.out.trans (hb4.mono HB3.out.size))
          clear hb4
          go_wp2_with fail
          go_ret
          exact ⟨rfl, HB4.out⟩
      · obtain rfl := HE2.out
        obtain rfl := HBS.out rfl
        obtain rfl := HE4.out
        go_wp2_with fail
        refine (HW.out _ HB3.out).mono ?_
        rintro e w4 ⟨rfl, hb4⟩
        have HB4 := Lib.hid (HB3.out.trans (hb4.mono HB3.out.size))
        clear hb4
        go_wp2_with fail
        go_ret
        exact ⟨rfl, HB4.out⟩
end Go.Proofs.YtcbeommmacnkgaaDoor.recordsLogW
