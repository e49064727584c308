/-
  Contract of Append: where the file is not there.
-/
import Derived.Test.YtceldekbkffhpaaDApp2
namespace Go.Proofs.Ytceldekbkffhpaa
open Go.RowKit Go.Sort
section
variable {w w' : World} {d : Nat} {D : Dsk.Dk} {S T : Nat → Prop} {v : Value} {fs : List MF} {left : Int} {fv : Value}
theorem good_new (h : Dsk.Good D) {nm : ByteArray} (hn : Dsk.isNm nm = true) (hm : nm ∉ Dsk.names D.fs) (h16 : D.fs.length < 16) : Dsk.Good { D with fs := D.fs.insertIdx (Dsk.place (Dsk.names D.fs) nm) ⟨nm, [], 0⟩ } := by
  have hle := Dsk.place_le' D.fs nm
  have hroom := h.room
  refine h.of (by rw [Dsk.names_insert]; exact h.rise.ins hm) (by rw [List.length_insertIdx_of_le_length hle]; omega) (by rw [Dsk.total_insert _ _ _ hle]; show Dsk.total D.fs + 0 ≤ _; omega) (fun f hf => ?_) (fun f hf => ?_) _ _ _
  · rcases (List.mem_insertIdx hle).1 hf with rfl | hf
    · exact hn
    · exact h.nm f hf
  · rcases (List.mem_insertIdx hle).1 hf with rfl | hf
    · exact Nat.le_refl _
    · exact h.sure f hf
def newM (nm : ByteArray) : MF := ⟨⟨nm, [], 0⟩, .slice none 0 0⟩
def ClonedPost (u : World) (d : Nat) (nm : ByteArray) (v : Value) (e : Ending) (w' : World) : Prop :=
  e = .returned (.string nm) ∧ Hid (Below u.heap.size u w') ∧ w'.cell? ⟨d, 1, none⟩ = some v ∧ ∀ o, (w'.alloc o).cell? ⟨d, 1, none⟩ = some v
def InsertedPost (w0 : World) (d : Nat) (v : Value) (n : Nat) (xs : List Value) (e : Ending) (w' : World) : Prop :=
  ∃ A' n' c', e = Ending.returned (.slice A' n' c') ∧ Hid (Grew w0 w' 62 3 v (.slice A' n' c') n xs) ∧ w'.cell? ⟨d, 1, none⟩ = some v ∧ w'.frozen? ⟨d, 1, none⟩ = false
/-- What the region that lays a new file leaves. -/
def LaidIn (u W : World) (d : Nat) (D : Dsk.Dk) (S T : Nat → Prop) (fs : List MF) (p : Nat) (nm : ByteArray) (left : Int) (fv : Value) : Prop :=
  ∃ v' S1, DiskAt W d { D with fs := D.fs.insertIdx p ⟨nm, [], 0⟩ } S1 T v' (fs.insertIdx p (newM nm)) left fv ∧ Foot S u W ∧ ∀ k, S1 k → S k ∨ u.heap.size ≤ k
theorem laid_in {u w' w'' W : World} {v' : Value} {p : Nat} {nm : ByteArray} (h : DiskAt u d D S T v fs left fv) (hb : Below u.heap.size u w') (hp : p ≤ fs.length) (hgood : Dsk.Good { D with fs := D.fs.insertIdx p ⟨nm, [], 0⟩ })
    (hG : Grew (w'.alloc (.cells #[.string nm, .slice none 0 0, .int .i64 0] 62)) w'' 62 3 v v' (fs.length + 1) ((rowCells fs).take (p * 3) ++ [.string nm, .slice none 0 0, .int .i64 0] ++ (rowCells fs).drop (p * 3)))
    (hW : Foot (fun _ => False) (w''.setCell ⟨d, 1, none⟩ v') W) : LaidIn u W d D S T fs p nm left fv := by
  have hb2 := hb.alloc hb.size (.cells #[.string nm, .slice none 0 0, .int .i64 0] 62)
  have h1 := h.below hb2
  obtain ⟨g1, g2, g3⟩ := hG
  obtain ⟨q1, q2⟩ := h1.ins (newM nm) hp g1 (World.ownsRow_nil _ _ _ _) (fun f _ k _ e => by cases e) (fun k e => by cases e) (fun k e => by cases e) g3 g2 hW (D' := { D with fs := D.fs.insertIdx p ⟨nm, [], 0⟩ }) (by rw [ins_fl, h.fls]; rfl) hgood
  refine ⟨v', _, q1, (below_foot hb2 : Foot S u _).trans (q2.mono fun k _ e => h.inS k (e.elim .inl fun e => .inr (.inl e))) fun _ _ e => e, fun k e => ?_⟩
  rcases e with e | e
  · exact .inl e
  · rcases g3 k e with e | e
    · exact .inl (h.inS k (.inr (.inl e)))
    · exact .inr (Nat.le_trans hb2.size e)
set_option maxRecDepth 100000 in
set_option maxHeartbeats 2000000 in
theorem append_new (nm s : ByteArray) (h : IsDisk w d D S) (hd : D.down = false) (hn : Dsk.isNm nm = true) (hm : nm ∉ Dsk.names D.fs) (h16 : D.fs.length < 16) (hfull : ¬ D.cap < Dsk.total D.fs + s.size) : Calls Try.prog 22 #[.pointer (some ⟨d, 0, none⟩), .string nm, .string s] w (AnyRet (Did w d S (Dsk.append D nm s))) := by
  have hD := h
  obtain ⟨T, v, fs, left, fv, h⟩ := h
  have hnsz := isNm_size hn
  have HR := Lib.hid (ready_any w h.head h.good.cap0)
  rw [hd] at HR
  have HN := Lib.hid hn
  have hadd : Dsk.addTo D.fs nm s = (D.fs.insertIdx (Dsk.place (Dsk.names D.fs) nm) ⟨nm, [], 0⟩).modify (Dsk.place (Dsk.names D.fs) nm) (moreF s) := by unfold Dsk.addTo; rw [if_neg hm]; rfl
  have hnot : ¬ ((nm ∉ Dsk.names D.fs ∧ 16 ≤ D.fs.length) ∨ D.cap < Dsk.total D.fs + s.size) := fun e => e.elim (fun e => by omega) hfull
  have HW : Hid (Dsk.append D nm s = Dsk.pass { D with fs := (D.fs.insertIdx (Dsk.place (Dsk.names D.fs) nm) ⟨nm, [], 0⟩).modify (Dsk.place (Dsk.names D.fs) nm) (moreF s) }) := by unfold Hid Dsk.append; rw [hd, if_neg (by simp), if_neg (by rw [hn]; simp), if_neg hnot, hadd]
  have HG := Lib.hid (h.good.append nm s hn hnot D.down D.starts D.fail)
  rw [hadd] at HG
  have HG1 := Lib.hid (good_new h.good hn hm h16)
  have hfew := h.few
  have hroom := h.good.room
  have hcap := h.good.cap1
  have HF := Lib.hid (find_any nm w h.head h.files h.rise (by omega))
  rw [decide_eq_false (by rw [h.names]; exact hm), h.names] at HF
  have hp : Dsk.place (Dsk.names D.fs) nm ≤ fs.length := by rw [h.len]; exact Dsk.place_le' D.fs nm
  generalize Dsk.place (Dsk.names D.fs) nm = p at *
  obtain ⟨A, c, rfl⟩ := h.shape
  have hcs : IntKind.i64.wrap ((D.cap : Int) - (Dsk.total D.fs : Int)) = (D.cap : Int) - (Dsk.total D.fs : Int) := IntWalk.i64_in _ (by omega)
  have t2 : decide ((D.cap : Int) - (Dsk.total D.fs : Int) < (s.size : Int)) = false := decide_eq_false (by omega)
  have t1 : decide ((16 : Int) ≤ (fs.length : Int)) = false := decide_eq_false (by have := h.len; omega)
  have HH := Lib.hid h
  clear h hn hadd hnot hm
  go_enter Try.func22, Try.ntmps22
  go_wp2_with fail
  refine HR.out.mono ?_
  rintro e w' ⟨rfl, rfl⟩
  go_wp2_with fail
  refine (isName_any nm _).mono ?_
  rintro e w1 ⟨he, rfl⟩
  rw [HN.out] at he
  subst he
  go_wp2_with fail
  refine HF.out.mono ?_
  rintro e w1 ⟨rfl, hb1⟩
  have h1 := HH.out.below hb1
  obtain ⟨c0, c1, _⟩ := h1.head.cells
  have k0 := cell_regrown c0
  have k1 := cell_regrown c1
  have cP : ∀ d' os, Calls Try.prog 18 #[.pointer (some ⟨d, 0, none⟩)] (grow (redrawn w1 d') os) fun e w'' => e = .returned (.int .i64 (Dsk.total D.fs : Int)) ∧ ∃ p : Regrown, w'' = grow (redrawn w1 p.d) p.os := fun d' os => Calls.regrown_of (size_any ⟨T, _, fs, left, fv, h1.below (below_regrown w1 d' os)⟩)
  clear h1 c0 c1
  go_wp2_with fail
  refine wp_region_quiet_below (by kernel_rfl) (by kernel_rfl) ?_
  repeat (go_big_quiet_step (exact cP _ _))
  refine wpQuiet_nil ?_
  intro _ hw'
  obtain ⟨⟨dq, osq⟩, hw''⟩ := hw'
  subst hw''
  have hbq := below_regrown w1 dq osq
  generalize grow (redrawn w1 dq) osq = u2 at *
  clear k0 k1 cP t1
  have HBX := Lib.hid (hb1.trans (hbq.mono hb1.size))
  have h2 := HH.out.below HBX.out
  clear hb1 hbq
  obtain ⟨_, k1, _, _, _, _, kz⟩ := h2.head.cells
  have z1 := kz 1
  have hdl := h2.head.lt
  have hcl : Calls Try.prog 51 #[.string nm] u2.drew (ClonedPost u2 d nm (.slice A fs.length c)) := (clone_any nm u2.drew (by omega)).mono fun e w' ⟨e1, hb⟩ => by
    have hb' : Below u2.heap.size u2 w' := (Below.refl _ u2).drew.trans hb
    have e2 := (hb'.cell (p := ⟨d, 1, none⟩) hdl).trans k1
    exact ⟨e1, Lib.hid hb', e2, fun o => (World.cell?_of_block (Below.heap_alloc w' o d (Nat.lt_of_lt_of_le hdl hb'.size))).trans e2⟩
  have HCL := Lib.hid hcl
  have HINS : Hid (∀ W, Hid (Below u2.heap.size u2 W) → Calls Try.prog 50 #[.slice A fs.length c, .int .i64 (p : Int), .slice (some ⟨W.heap.size, 0, none⟩) 1 1] (W.alloc (.cells #[.string nm, .slice none 0 0, .int .i64 0] 62))
      (InsertedPost (W.alloc (.cells #[.string nm, .slice none 0 0, .int .i64 0] 62)) d (.slice A fs.length c) (fs.length + 1) ((rowCells fs).take (p * 3) ++ [.string nm, .slice none 0 0, .int .i64 0] ++ (rowCells fs).drop (p * 3)))) := by
    intro W hbW
    have hb2 := hbW.out.alloc hbW.out.size (.cells #[.string nm, .slice none 0 0, .int .i64 0] 62)
    have h3 := h2.below hb2
    refine (insert_any _ fs.length p W.heap.size (rowCells fs) (.string nm) (.slice none 0 0) (.int .i64 0) _ h3.files.row (one_cells h3.files.one) hp (by omega) (heap_alloc_new W _) (fun e => by have := owns_lt h2.files.row e; have := hbW.out.size; omega) (fun u hu => by simp at hu; rcases hu with rfl | rfl | rfl <;> rfl)).mono ?_
    rintro e w' ⟨v', e1, e2⟩
    obtain ⟨A', n', c', rfl⟩ := owns_slice e2.1
    exact ⟨A', n', c', e1, Lib.hid e2, (e2.2.1.cell (p := ⟨d, 1, none⟩) h3.head.lt (fun e => h3.files.offd e)).trans h3.head.cells.2.1, (World.frozen?_of_block (e2.2.1.block d h3.head.lt fun e => h3.files.offd e)).trans (h3.head.cells.2.2.2.2.2.2 1)⟩
  have HLAID : Hid (∀ (v' : Value) (w' w'' W : World), Hid (Below u2.heap.size u2 w') → Hid (Grew (w'.alloc (.cells #[.string nm, .slice none 0 0, .int .i64 0] 62)) w'' 62 3 (.slice A fs.length c) v' (fs.length + 1) ((rowCells fs).take (p * 3) ++ [.string nm, .slice none 0 0, .int .i64 0] ++ (rowCells fs).drop (p * 3))) →
      Foot (fun _ => False) (w''.setCell ⟨d, 1, none⟩ v') W → LaidIn u2 W d D S T fs p nm left fv) := fun v' w' w'' W hb hg hW => laid_in h2 hb.out hp HG1.out hg.out hW
  clear h2 hcl kz
  generalize (rowCells fs).take (p * 3) ++ [.string nm, .slice none 0 0, .int .i64 0] ++ (rowCells fs).drop (p * 3) = XS at *
  go_upto_region 10 with fail
  go_cut [] (fun wx => Hid (LaidIn u2 wx d D S T fs p nm left fv))
  case first =>
    go_region_with (first
      | (go_at_call 51; refine HCL.out.mono ?_; rintro e w' ⟨rfl, hbc, kc1, kc2⟩)
      | (go_at_call 50; refine (HINS.out _ hbc).mono ?_; rintro e w'' ⟨A', n', c', rfl, hgrew, hc1, hz1⟩))
    all_goals
      go_wp2_with fail
      go_meet
      case rel => exact HLAID.out _ _ _ _ hbc hgrew (Foot.refl _ _)
  case rest =>
    obtain ⟨v', S1, h2, hf2, hk2⟩ := hcut.out
    clear hcut k1 z1 HCL HINS HLAID hdl
    have HF2 := Lib.hid hf2
    have HK2 := Lib.hid hk2
    have hln : (fs.insertIdx p (newM nm)).length = fs.length + 1 := List.length_insertIdx_of_le_length hp _
    have hp' : p < (fs.insertIdx p (newM nm)).length := by omega
    have hfp : (fs.insertIdx p (newM nm))[p] = newM nm := List.getElem_insertIdx_self hp'
    obtain ⟨g, c, rfl, hjunk⟩ := h2.files.at_ hp'
    clear hjunk
    clear hf2 hk2
    have h3 : DiskAt wc.drew d { D with fs := D.fs.insertIdx p ⟨nm, [], 0⟩ } S1 T (.slice (some ⟨g, 0, none⟩) (fs.insertIdx p (newM nm)).length c) (fs.insertIdx p (newM nm)) left fv := h2.below (Below.refl _ _).drew
    have hmem := List.getElem_mem hp'
    obtain ⟨A0, bc, hbv, q1, q2, q3, q4, q5, b1, b2, b3, bz⟩ := h3.file hp'
    have hln0 : (fs.insertIdx p (newM nm))[p].fl.data.length = 0 := by rw [hfp]; rfl
    obtain ⟨iu, hiu, hu0, hu1, hu2⟩ := info_parts Try.info_u8
    have hby := h3.files.bytes _ hmem
    obtain ⟨v', w', hr, hg⟩ := run_append_grew_string (P := Try.prog) wc.drew 60 9 60 5 iu Try.underlying60 Try.underlying9 hiu hu0 hu1 hu2 (fs.insertIdx p (newM nm))[p].bv _ _ hby s (by rw [hln0]; unfold maxLen; omega) (by rw [hln0]; omega)
    obtain ⟨A', n', c', rfl⟩ := owns_slice hg.1
    have hk1 : w'.cell? ⟨d, 1, none⟩ = some (.slice (some ⟨g, 0, none⟩) (fs.insertIdx p (newM nm)).length c) := (hg.2.1.cell (p := ⟨d, 1, none⟩) h3.head.lt (fun e => (h3.files.off _ hmem d e).1 rfl)).trans h3.head.cells.2.1
    have hk2 : w'.cell? ⟨g, p * 3 + 1, none⟩ = some (.slice A0 (fs.insertIdx p (newM nm))[p].fl.data.length bc) := (hg.2.1.cell (p := ⟨g, p * 3 + 1, none⟩) (owns_lt h3.files.row rfl) (fun e => (h3.files.off _ hmem g e).2 rfl)).trans b2
    have hk3 : w'.frozen? ⟨g, p * 3 + 1, none⟩ = false := (World.frozen?_of_block (hg.2.1.block g (owns_lt h3.files.row rfl) fun e => (h3.files.off _ hmem g e).2 rfl)).trans (bz (p * 3 + 1))
    have hk4 := h2.head.cells.2.1
    have hk5 : wc.cell? ⟨g, p * 3 + 1, none⟩ = some (.slice A0 (fs.insertIdx p (newM nm))[p].fl.data.length bc) := b2
    rw [hbv] at hr
    have HFIN : Hid (∀ W, Foot (fun _ => False) (w'.setCell ⟨g, p * 3 + 1, none⟩ (.slice A' n' c')) W → Did wc.drew d S1 ({ D with fs := (D.fs.insertIdx p ⟨nm, [], 0⟩).modify p (moreF s) }, 0) 0 W) := fun W hW => app_fin s h3 hp' hg hW HG.out
    have HAP := Lib.hid hr
    have hpl : (p : Int) < ((fs.insertIdx p (newM nm)).length : Int) := by omega
    clear h2 h3 hbv q1 q2 q3 q4 q5 b1 b2 b3 bz hby hr hg hmem hiu hu0 hu1 hu2 hln0 hfp
    generalize (fs.insertIdx p (newM nm))[p].fl.data.length = L at *
    clear hln hp'
    generalize (fs.insertIdx p (newM nm)).length = M at *
    go_wp2_with fail
    go_region_law (refine step_append_known rfl _ _ 60 9 rfl (.slice A0 L bc) (.string s) (by simp [Act.eval]) (by simp [Act.eval]) HAP.out ?_)
    all_goals
      obtain ⟨_, S2, i1, f1, kk1⟩ := HFIN.out _ (Foot.refl _ _)
      have HPS := Lib.hid (pass_is i1)
      have HF1 := Lib.hid f1
      have HK1 := Lib.hid kk1
      clear i1 f1 kk1
      go_wp2_with fail
      refine HPS.out.mono ?_
      rintro e w4 ⟨r, rfl, hq⟩
      have HQ := Lib.hid hq
      clear hq
      go_wp2_with fail
      go_ret
      refine ⟨r, rfl, ?_⟩
      rw [HW.out]
      exact Did.from_ HBX.out (Did.chain HF2.out HK2.out (Did.from_ (Below.refl _ _).drew (Did.chain HF1.out HK1.out HQ.out)))
theorem append_any (nm s : ByteArray) (h : IsDisk w d D S) : Calls Try.prog 22 #[.pointer (some ⟨d, 0, none⟩), .string nm, .string s] w (AnyRet (Did w d S (Dsk.append D nm s))) := by
  cases hd : D.down
  · cases hn : Dsk.isNm nm
    · exact append_not nm s h hd hn
    · by_cases hm : nm ∈ Dsk.names D.fs
      · by_cases hf : D.cap < Dsk.total D.fs + s.size
        · exact append_full nm s h hd hn (fun e => e.1 hm) hf
        · exact append_there nm s h hd hn hm hf
      · by_cases h16 : 16 ≤ D.fs.length
        · exact append_many nm s h hd hn hm h16
        · by_cases hf : D.cap < Dsk.total D.fs + s.size
          · exact append_full nm s h hd hn (fun e => h16 e.2) hf
          · exact append_new nm s h hd hn hm (by omega) hf
  · exact append_down nm s h hd
end
end Go.Proofs.Ytceldekbkffhpaa
