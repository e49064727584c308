/-
  Contract of Append: full; and where the file is there.
-/
import Derived.Test.YtceldekbkffhpaaDApp
import Derived.Test.YtceldekbkffhpaaDRename
namespace Go.Proofs.Ytceldekbkffhpaa
open Go.RowKit Go.Sort
section
variable {w w' : World} {d : Nat} {D : Dsk.Dk} {S T : Nat → Prop} {v : Value} {fs : List MF} {left : Int} {fv : Value}
set_option maxRecDepth 100000 in
set_option maxHeartbeats 2000000 in
theorem append_full (nm s : ByteArray) (h : IsDisk w d D S) (hd : D.down = false) (hn : Dsk.isNm nm = true) (hin : ¬ (nm ∉ Dsk.names D.fs ∧ 16 ≤ D.fs.length)) (hfull : D.cap < Dsk.total D.fs + s.size) : Calls Try.prog 22 #[.pointer (some ⟨d, 0, none⟩), .string nm, .string s] w (AnyRet (Did w d S (Dsk.append D nm s))) := by
  have hD := h
  obtain ⟨T, v, fs, left, fv, h⟩ := h
  have HR := Lib.hid (ready_any w h.head h.good.cap0)
  rw [hd] at HR
  have HN := Lib.hid hn
  have HW : Hid (Dsk.append D nm s = (D, 40)) := by unfold Hid Dsk.append; rw [hd, if_neg (by simp), if_neg (by rw [hn]; simp), if_pos (.inr hfull)]
  have hfew := h.few
  have hroom := h.good.room
  have hcap := h.good.cap1
  have HF := Lib.hid (find_any nm w h.head h.files h.rise (by omega))
  obtain ⟨A, c, rfl⟩ := h.shape
  have hcs : IntKind.i64.wrap ((D.cap : Int) - (Dsk.total D.fs : Int)) = (D.cap : Int) - (Dsk.total D.fs : Int) := IntWalk.i64_in _ (by omega)
  have t2 : decide ((D.cap : Int) - (Dsk.total D.fs : Int) < (s.size : Int)) = true := decide_eq_true (by omega)
  have HLN := Lib.hid h.len
  have HNM := Lib.hid h.names
  have HH := Lib.hid h
  clear h hn
  by_cases hm : nm ∈ Dsk.names D.fs
  · rw [decide_eq_true (by rw [HNM.out]; exact hm)] at HF
    go_enter Try.func22, Try.ntmps22
    go_wp2_with fail
    refine HR.out.mono ?_
    rintro e w' ⟨rfl, rfl⟩
    go_wp2_with fail
    refine (isName_any nm _).mono ?_
    rintro e w1 ⟨he, rfl⟩
    rw [HN.out] at he
    subst he
    go_wp2_with fail
    refine HF.out.mono ?_
    rintro e w1 ⟨rfl, hb1⟩
    have h1 := HH.out.below hb1
    obtain ⟨c0, c1, _⟩ := h1.head.cells
    have k0 := cell_regrown c0
    have cP : ∀ d' os, Calls Try.prog 18 #[.pointer (some ⟨d, 0, none⟩)] (grow (redrawn w1 d') os) fun e w'' => e = .returned (.int .i64 (Dsk.total D.fs : Int)) ∧ ∃ p : Regrown, w'' = grow (redrawn w1 p.d) p.os := fun d' os => Calls.regrown_of (size_any ⟨T, _, fs, left, fv, h1.below (below_regrown w1 d' os)⟩)
    clear h1 c0 c1
    go_wp2_with fail
    refine wp_region_quiet_below (by kernel_rfl) (by kernel_rfl) ?_
    repeat (go_big_quiet_step (exact cP _ _))
    refine wpQuiet_nil ?_
    intro _ hw'
    obtain ⟨⟨dq, osq⟩, hw''⟩ := hw'
    subst hw''
    have hbq := below_regrown w1 dq osq
    generalize grow (redrawn w1 dq) osq = u2 at *
    clear k0 cP
    go_wp2_with fail
    go_ret
    exact ⟨40, rfl, by rw [HW.out]; exact Did.same hD 40 (hb1.trans (hbq.mono hb1.size))⟩
  · rw [decide_eq_false (by rw [HNM.out]; exact hm)] at HF
    have t1 : decide ((16 : Int) ≤ (fs.length : Int)) = false := decide_eq_false (by have : ¬ 16 ≤ D.fs.length := fun e => hin ⟨hm, e⟩; have := HLN.out; omega)
    go_enter Try.func22, Try.ntmps22
    go_wp2_with fail
    refine HR.out.mono ?_
    rintro e w' ⟨rfl, rfl⟩
    go_wp2_with fail
    refine (isName_any nm _).mono ?_
    rintro e w1 ⟨he, rfl⟩
    rw [HN.out] at he
    subst he
    go_wp2_with fail
    refine HF.out.mono ?_
    rintro e w1 ⟨rfl, hb1⟩
    have h1 := HH.out.below hb1
    obtain ⟨c0, c1, _⟩ := h1.head.cells
    have k0 := cell_regrown c0
    have k1 := cell_regrown c1
    have cP : ∀ d' os, Calls Try.prog 18 #[.pointer (some ⟨d, 0, none⟩)] (grow (redrawn w1 d') os) fun e w'' => e = .returned (.int .i64 (Dsk.total D.fs : Int)) ∧ ∃ p : Regrown, w'' = grow (redrawn w1 p.d) p.os := fun d' os => Calls.regrown_of (size_any ⟨T, _, fs, left, fv, h1.below (below_regrown w1 d' os)⟩)
    clear h1 c0 c1
    go_wp2_with fail
    refine wp_region_quiet_below (by kernel_rfl) (by kernel_rfl) ?_
    repeat (go_big_quiet_step (exact cP _ _))
    refine wpQuiet_nil ?_
    intro _ hw'
    obtain ⟨⟨dq, osq⟩, hw''⟩ := hw'
    subst hw''
    have hbq := below_regrown w1 dq osq
    generalize grow (redrawn w1 dq) osq = u2 at *
    clear k0 k1 cP
    go_wp2_with fail
    go_ret
    exact ⟨40, rfl, by rw [HW.out]; exact Did.same hD 40 (hb1.trans (hbq.mono hb1.size))⟩
set_option maxRecDepth 100000 in
set_option maxHeartbeats 2000000 in
theorem append_there (nm s : ByteArray) (h : IsDisk w d D S) (hd : D.down = false) (hn : Dsk.isNm nm = true) (hm : nm ∈ Dsk.names D.fs) (hfull : ¬ D.cap < Dsk.total D.fs + s.size) : Calls Try.prog 22 #[.pointer (some ⟨d, 0, none⟩), .string nm, .string s] w (AnyRet (Did w d S (Dsk.append D nm s))) := by
  have hD := h
  obtain ⟨T, v, fs, left, fv, h⟩ := h
  have HR := Lib.hid (ready_any w h.head h.good.cap0)
  rw [hd] at HR
  have HN := Lib.hid hn
  have hadd : Dsk.addTo D.fs nm s = D.fs.modify (Dsk.place (Dsk.names D.fs) nm) (moreF s) := by unfold Dsk.addTo; rw [if_pos hm]; rfl
  have HW : Hid (Dsk.append D nm s = Dsk.pass { D with fs := D.fs.modify (Dsk.place (Dsk.names D.fs) nm) (moreF s) }) := by unfold Hid Dsk.append; rw [hd, if_neg (by simp), if_neg (by rw [hn]; simp), if_neg (by simp [hm]; omega), hadd]
  have HG := Lib.hid (h.good.append nm s hn (by simp [hm]; omega) D.down D.starts D.fail)
  rw [hadd] at HG
  have hfew := h.few
  have hroom := h.good.room
  have hcap := h.good.cap1
  have HF := Lib.hid (find_any nm w h.head h.files h.rise (by omega))
  rw [decide_eq_true (by rw [h.names]; exact hm), h.names] at HF
  have hp : Dsk.place (Dsk.names D.fs) nm < fs.length := by rw [h.len]; exact (Dsk.place_mem' h.good.rise hm).1
  generalize Dsk.place (Dsk.names D.fs) nm = p at *
  obtain ⟨g, c, rfl, _⟩ := h.files.at_ hp
  have hcs : IntKind.i64.wrap ((D.cap : Int) - (Dsk.total D.fs : Int)) = (D.cap : Int) - (Dsk.total D.fs : Int) := IntWalk.i64_in _ (by omega)
  have t2 : decide ((D.cap : Int) - (Dsk.total D.fs : Int) < (s.size : Int)) = false := decide_eq_false (by omega)
  have HH := Lib.hid h
  clear h hn hadd
  go_enter Try.func22, Try.ntmps22
  go_wp2_with fail
  refine HR.out.mono ?_
  rintro e w' ⟨rfl, rfl⟩
  go_wp2_with fail
  refine (isName_any nm _).mono ?_
  rintro e w1 ⟨he, rfl⟩
  rw [HN.out] at he
  subst he
  go_wp2_with fail
  refine HF.out.mono ?_
  rintro e w1 ⟨rfl, hb1⟩
  have h1 := HH.out.below hb1
  obtain ⟨c0, c1, _⟩ := h1.head.cells
  have k0 := cell_regrown c0
  have cP : ∀ d' os, Calls Try.prog 18 #[.pointer (some ⟨d, 0, none⟩)] (grow (redrawn w1 d') os) fun e w'' => e = .returned (.int .i64 (Dsk.total D.fs : Int)) ∧ ∃ p : Regrown, w'' = grow (redrawn w1 p.d) p.os := fun d' os => Calls.regrown_of (size_any ⟨T, _, fs, left, fv, h1.below (below_regrown w1 d' os)⟩)
  clear h1 c0 c1
  go_wp2_with fail
  refine wp_region_quiet_below (by kernel_rfl) (by kernel_rfl) ?_
  repeat (go_big_quiet_step (exact cP _ _))
  refine wpQuiet_nil ?_
  intro _ hw'
  obtain ⟨⟨dq, osq⟩, hw''⟩ := hw'
  subst hw''
  have hbq := below_regrown w1 dq osq
  generalize grow (redrawn w1 dq) osq = u2 at *
  clear k0 cP
  have HBX := Lib.hid (hb1.trans (hbq.mono hb1.size))
  have h2 := HH.out.below HBX.out
  clear hb1 hbq
  -- the bytes
  have h3 : DiskAt u2.drew d D S T (.slice (some ⟨g, 0, none⟩) fs.length c) fs left fv := h2.below (Below.refl _ _).drew
  have hmem := List.getElem_mem hp
  obtain ⟨A, bc, hbv, q1, q2, q3, q4, q5, b1, b2, b3, bz⟩ := h3.file hp
  have hlen63 : fs[p].fl.data.length + s.size ≤ 2097152 := by omega
  obtain ⟨iu, hiu, hu0, hu1, hu2⟩ := info_parts Try.info_u8
  have hby := h3.files.bytes _ hmem
  obtain ⟨v', w', hr, hg⟩ := run_append_grew_string (P := Try.prog) u2.drew 60 9 60 5 iu Try.underlying60 Try.underlying9 hiu hu0 hu1 hu2 fs[p].bv _ _ hby s (by unfold maxLen; omega) (by omega)
  obtain ⟨A', n', c', rfl⟩ := owns_slice hg.1
  have hk1 : w'.cell? ⟨d, 1, none⟩ = some (.slice (some ⟨g, 0, none⟩) fs.length c) := (hg.2.1.cell (p := ⟨d, 1, none⟩) h3.head.lt (fun e => (h3.files.off _ hmem d e).1 rfl)).trans h3.head.cells.2.1
  have hk2 : w'.cell? ⟨g, p * 3 + 1, none⟩ = some (.slice A fs[p].fl.data.length bc) := (hg.2.1.cell (p := ⟨g, p * 3 + 1, none⟩) (owns_lt h3.files.row rfl) (fun e => (h3.files.off _ hmem g e).2 rfl)).trans b2
  have hk3 : w'.frozen? ⟨g, p * 3 + 1, none⟩ = false := (World.frozen?_of_block (hg.2.1.block g (owns_lt h3.files.row rfl) fun e => (h3.files.off _ hmem g e).2 rfl)).trans (bz (p * 3 + 1))
  have hk4 := h2.head.cells.2.1
  have hk5 : u2.cell? ⟨g, p * 3 + 1, none⟩ = some (.slice A fs[p].fl.data.length bc) := b2
  rw [hbv] at hr
  have HFIN : Hid (∀ W, Foot (fun _ => False) (w'.setCell ⟨g, p * 3 + 1, none⟩ (.slice A' n' c')) W → Did u2.drew d S ({ D with fs := D.fs.modify p (moreF s) }, 0) 0 W) := fun W hW => app_fin s h3 hp hg hW HG.out
  have HAP := Lib.hid hr
  have hpl : (p : Int) < (fs.length : Int) := by omega
  clear h2 h3 hbv q1 q2 q3 q4 q5 b1 b2 b3 bz hby hr hg hmem hiu hu0 hu1 hu2 hlen63
  generalize fs[p].fl.data.length = L at *
  go_wp2_with fail
  go_region_law (refine step_append_known rfl _ _ 60 9 rfl (.slice A L bc) (.string s) (by simp [Act.eval]) (by simp [Act.eval]) HAP.out ?_)
  all_goals
    obtain ⟨_, S1, i1, f1, kk1⟩ := HFIN.out _ (Foot.refl _ _)
    have HPS := Lib.hid (pass_is i1)
    have HF1 := Lib.hid f1
    clear i1 f1
    go_wp2_with fail
    refine HPS.out.mono ?_
    rintro e w4 ⟨r, rfl, hq⟩
    have HQ := Lib.hid hq
    clear hq
    go_wp2_with fail
    go_ret
    refine ⟨r, rfl, ?_⟩
    rw [HW.out]
    exact Did.from_ HBX.out (Did.chain ((Foot.drew S u2).trans HF1.out fun _ _ e => e) kk1 HQ.out)
end
end Go.Proofs.Ytceldekbkffhpaa
