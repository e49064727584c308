/-
  Encode of the document's records.
-/
import Derived.Test.YtkdnhfeamibmdaaDoorRFree
import Derived.Test.YtkdnhfeamibmdaaDoorRcEnc
import Derived.Test.YtkdnhfeamibmdaaDoorRrEnts
import Derived.Test.YtkdnhfeamibmdaaDoorRrMay5
import Derived.Deep.DeepCutAuto
namespace Go.Proofs.YtkdnhfeamibmdaaDoor
open Go.RowKit Go.Sort
theorem build6i_run (a b c d e f : Int) (X : World) : (Instr.buildSlice 57 6 #[(0, .int .i64 a), (1, .int .i64 b), (2, .int .i64 c), (3, .int .i64 d), (4, .int .i64 e), (5, .int .i64 f)]).run Tryd.prog X = .ok (.slice (some ⟨X.heap.size, 0, none⟩) 6 6) (X.alloc (.cells #[.int .i64 a, .int .i64 b, .int .i64 c, .int .i64 d, .int .i64 e, .int .i64 f] 3)) := by kernel_rfl
theorem build1i_run (a : Int) (X : World) : (Instr.buildSlice 57 1 #[(0, .int .i64 a)]).run Tryd.prog X = .ok (.slice (some ⟨X.heap.size, 0, none⟩) 1 1) (X.alloc (.cells #[.int .i64 a] 3)) := by kernel_rfl
set_option maxRecDepth 100000 in
set_option maxHeartbeats 8000000 in
theorem rrEnc_no (r : Rec) {ve vf : Value} {w : World} (hE : EsB w.heap.size w ve r.es) (hF : FdB w.heap.size w vf r.fd) (hmay : r.may = false) :
    Calls Tryd.prog 9 #[r.v ve vf] w (NumPost (.tuple #[.string ⟨#[]⟩, .int .i64 2]) w) := by
  have hb0 : ∀ o : Obj, EsB (w.alloc o).heap.size (w.alloc o) ve r.es ∧ FdB (w.alloc o).heap.size (w.alloc o) vf r.fd := fun o =>
    have hb : Below w.heap.size w (w.alloc o) := (Below.refl _ _).alloc (Nat.le_refl _) o
    ⟨(RdB.below hE hb (Nat.le_refl _)).mono hb.size, (RdB.below hF hb (Nat.le_refl _)).mono hb.size⟩
  have HG := Lib.hid (fun o : Obj => hmay ▸ rmayrec_any r (hb0 o).1 (hb0 o).2)
  obtain ⟨A, c, rfl, -⟩ := RdB.len hE
  obtain ⟨A', c', rfl, -⟩ := RdB.len hF
  clear hE hF hb0 hmay
  obtain ⟨ki, st, ep, vi, fr, le, es, fd⟩ := r
  dsimp only [Rec.v] at *
  go_enter Tryd.func9, Tryd.ntmps9
  go_wp2_with fail
  refine (HG.out _).mono ?_
  rintro e w1 ⟨rfl, hb1⟩
  have hb2 : Below w.heap.size w w1 := ((Below.refl _ _).alloc (Nat.le_refl _) _).trans (hb1.mono (by simp))
  go_wp2_with fail
  go_ret2
  exact ⟨rfl, hb2⟩
set_option maxRecDepth 100000 in
set_option maxHeartbeats 8000000 in
theorem rrEnc_yes (r : Rec) {ve vf : Value} {w : World} (hE : EsB w.heap.size w ve r.es) (hF : FdB w.heap.size w vf r.fd) (hmay : r.may = true) :
    Calls Tryd.prog 9 #[r.v ve vf] w (NumPost (.tuple #[.string ⟨r.enc.toArray⟩, .int .i64 0]) w) := by
  have hb0 : ∀ o : Obj, EsB (w.alloc o).heap.size (w.alloc o) ve r.es ∧ FdB (w.alloc o).heap.size (w.alloc o) vf r.fd := fun o =>
    have hb : Below w.heap.size w (w.alloc o) := (Below.refl _ _).alloc (Nat.le_refl _) o
    ⟨(RdB.below hE hb (Nat.le_refl _)).mono hb.size, (RdB.below hF hb (Nat.le_refl _)).mono hb.size⟩
  have HG := Lib.hid (fun o : Obj => hmay ▸ rmayrec_any r (hb0 o).1 (hb0 o).2)
  have HP := Lib.hid (Rec.enc_parts r)
  have hbd := Rec.bd hmay
  have hii := Rec.may_ints hmay
  have HIH := Lib.hid hii.1
  have HLH := Lib.hid (markL_len hii.1).2
  have HLE := Lib.hid (esL_bd hii.2.1 (by omega) r.es.length)
  rw [List.take_length] at HLE
  have HFI := Lib.hid hii.2.2
  have HFB := Lib.hid (fun X (hX : Below w.heap.size w X) => (RdB.below hF hX (Nat.le_refl _) : FdB _ X vf r.fd))
  have HC2 := Lib.hid (fun X (hX : Below w.heap.size w X) => rentries_any (w := X) ((RdB.below hE hX (Nat.le_refl _)).mono hX.size) hii.2.1 (by omega))
  have hf256 : r.fd.length ≤ 256 := hbd.2.1
  obtain ⟨A, c, rfl, hlA, hmA, -⟩ := RdB.len hE
  obtain ⟨A', c', rfl, hlF, hmF, -⟩ := RdB.len hF
  unfold maxLen at hmA hmF
  clear hE hF hb0 hmay hbd hii
  generalize r.enc = L at *
  obtain ⟨ki, st, ep, vi, fr, le, es, fd⟩ := r
  dsimp only [Rec.v, Rec.hd] at *
  obtain ⟨S1, HS1⟩ : ∃ S : ByteArray, Hid (S = ⟨(markL [ki, st, ep, vi, fr, le]).toArray⟩) := ⟨_, Lib.hid rfl⟩
  obtain ⟨S2, HS2⟩ : ∃ S : ByteArray, Hid (S = ⟨(markL (esL es)).toArray⟩) := ⟨_, Lib.hid rfl⟩
  obtain ⟨S3, HS3⟩ : ∃ S : ByteArray, Hid (S = ⟨(markL [(fd.length : Int)]).toArray⟩) := ⟨_, Lib.hid rfl⟩
  have hfi : IntsOk [(fd.length : Int)] := by intro x hx; simp at hx; subst hx; omega
  have hs1 : S1.size ≤ 60 := by rw [str_len HS1.out]; have := HLH.out; simpa using this
  have hs2 : S2.size ≤ 20000 := by rw [str_len HS2.out]; exact HLE.out
  have hs3 : S3.size ≤ 10 := by rw [str_len HS3.out]; have := (markL_len hfi).2; simpa using this
  have HC1 : Hid (∀ X g, X.heap[g]? = some (.cells #[.int .i64 ki, .int .i64 st, .int .i64 ep, .int .i64 vi, .int .i64 fr, .int .i64 le] 3 (0, 0)) → Calls Tryd.prog 33 #[.slice (some ⟨g, 0, none⟩) 6 6] X (StrPost S1 X)) := Lib.hid fun X g h => by
    rw [HS1.out]
    exact rints_any (ns := [ki, st, ep, vi, fr, le]) h HIH.out (by simp)
  have HC3 : Hid (∀ X g, X.heap[g]? = some (.cells #[.int .i64 (fd.length : Int)] 3 (0, 0)) → Calls Tryd.prog 33 #[.slice (some ⟨g, 0, none⟩) 1 1] X (StrPost S3 X)) := Lib.hid fun X g h => by
    rw [HS3.out]
    exact rints_any (ns := [(fd.length : Int)]) h hfi (by simp)
  rw [← HS2.out] at HC2
  unfold StrPost at HC1 HC2 HC3
  have hs12 : S1.size + S2.size ≤ 9223372036854775807 := by omega
  have hs12s : (S1 ++ S2).size = S1.size + S2.size := by simp
  have hs23 : (S1 ++ S2).size + S3.size ≤ 9223372036854775807 := by omega
  have RS1 : ∀ X, (Op.stringOp .add S1 S2).run Tryd.prog X = .ok (.string (S1 ++ S2)) X := fun X => run_string_add_sum X S1 S2 hs12
  have RS2 : ∀ X, (Op.stringOp .add (S1 ++ S2) S3).run Tryd.prog X = .ok (.string (S1 ++ S2 ++ S3)) X := fun X => run_string_add_sum X (S1 ++ S2) S3 hs23
  have hz12 : ¬ (S1.size + S2.size > 9223372036854775807) := by omega
  have hz23 : ¬ ((S1 ++ S2).size + S3.size > 9223372036854775807) := by omega
  obtain ⟨w1, HX1⟩ : ∃ W : World, Hid (W = w.alloc (.cells #[.int .i64 ki, .int .i64 st, .int .i64 ep, .int .i64 vi, .int .i64 fr, .int .i64 le, .slice A es.length c, .slice A' fd.length c'] 25)) := ⟨_, Lib.hid rfl⟩
  have h_r1 : w1.heap[w.heap.size]? = some (.cells #[.int .i64 ki, .int .i64 st, .int .i64 ep, .int .i64 vi, .int .i64 fr, .int .i64 le, .slice A es.length c, .slice A' fd.length c'] 25 (0, 0)) := by rw [HX1.out]; exact heap_alloc_new _ _
  have hB1 : Below w.heap.size w w1 := by rw [HX1.out]; exact (Below.refl _ _).alloc (Nat.le_refl _) _
  have HG1 := Lib.hid (HG.out (.cells #[.int .i64 ki, .int .i64 st, .int .i64 ep, .int .i64 vi, .int .i64 fr, .int .i64 le, .slice A es.length c, .slice A' fd.length c'] 25))
  rw [← HX1.out] at HG1
  have d0 : w1.cell? ⟨w.heap.size, 0, none⟩ = some (.int .i64 ki) := by rw [Lib.cell_of_heap h_r1]; rfl
  clear HG d0
  have HFS : Hid (∀ X : World, X.heap[w.heap.size]? = some (.cells #[.int .i64 ki, .int .i64 st, .int .i64 ep, .int .i64 vi, .int .i64 fr, .int .i64 le, .slice A es.length c, .slice A' fd.length c'] 25 (0, 0)) → X.cell? ⟨w.heap.size, 0, none⟩ = some (.int .i64 ki) ∧ X.cell? ⟨w.heap.size, 1, none⟩ = some (.int .i64 st) ∧ X.cell? ⟨w.heap.size, 2, none⟩ = some (.int .i64 ep) ∧ X.cell? ⟨w.heap.size, 3, none⟩ = some (.int .i64 vi) ∧ X.cell? ⟨w.heap.size, 4, none⟩ = some (.int .i64 fr) ∧ X.cell? ⟨w.heap.size, 5, none⟩ = some (.int .i64 le) ∧ X.cell? ⟨w.heap.size, 6, none⟩ = some (.slice A es.length c) ∧ X.cell? ⟨w.heap.size, 7, none⟩ = some (.slice A' fd.length c')) := Lib.hid fun X h => by
    refine ⟨?_, ?_, ?_, ?_, ?_, ?_, ?_, ?_⟩ <;> (rw [Lib.cell_of_heap h]; rfl)
  obtain ⟨d0, d1, d2, d3, d4, d5, d6, d7⟩ := HFS.out w1 h_r1
  go_enter Tryd.func9, Tryd.ntmps9
  go_wp2_with (rw [← HX1.out])
  refine (HG1.out).mono ?_
  rintro e w2 ⟨rfl, hb⟩
  have hB2 := keepB hB1 hb
  have h_r2 := keepH hb h_r1
  clear hb d0 d1 d2 d3 d4 d5 d6 d7 hB1 h_r1 HG1 HX1
  obtain ⟨d0, d1, d2, d3, d4, d5, d6, d7⟩ := HFS.out w2 h_r2
  go_upto_region 3 with fail
  go_cut [4] (fun u wx => u = .string (S1 ++ S2 ++ S3) ∧ Hid (wx.heap[w.heap.size]? = some (.cells #[.int .i64 ki, .int .i64 st, .int .i64 ep, .int .i64 vi, .int .i64 fr, .int .i64 le, .slice A es.length c, .slice A' fd.length c'] 25 (0, 0))) ∧ Hid (Below w.heap.size w wx))
  case first =>
    have hW : Below w2.heap.size w2 w2.drew := (Below.refl _ _).drew
    have hX : w2.drew.heap[w.heap.size]? = some (.cells #[.int .i64 ki, .int .i64 st, .int .i64 ep, .int .i64 vi, .int .i64 fr, .int .i64 le, .slice A es.length c, .slice A' fd.length c'] 25 (0, 0)) := h_r2
    have hS' := HFS
    have hH := hS'.out _ hX
    clear HFS d0 d1 d2 d3 d4 d5 d6 d7 HFB HFI HP HLH HLE HIH
    refine wp_region_held_drew (S := fun X => X.cell? ⟨w.heap.size, 0, none⟩ = some (.int .i64 ki) ∧ X.cell? ⟨w.heap.size, 1, none⟩ = some (.int .i64 st) ∧ X.cell? ⟨w.heap.size, 2, none⟩ = some (.int .i64 ep) ∧ X.cell? ⟨w.heap.size, 3, none⟩ = some (.int .i64 vi) ∧ X.cell? ⟨w.heap.size, 4, none⟩ = some (.int .i64 fr) ∧ X.cell? ⟨w.heap.size, 5, none⟩ = some (.int .i64 le) ∧ X.cell? ⟨w.heap.size, 6, none⟩ = some (.slice A es.length c) ∧ X.cell? ⟨w.heap.size, 7, none⟩ = some (.slice A' fd.length c')) (by kernel_rfl) hH (fun hHeld => ?_)
    clear hH
    refine wpAnyH_take (i := 0) (v := ?_) rfl (by kernel_rfl) (by kernel_rfl) (by kernel_rfl) (fun _ _ _ h => h) (Or.inl ⟨by rfl, ?_⟩) (by assumption) ?_
    rotate_left
    · intro X hX
      go_simp
      try with_reducible rfl
    try simp only [List.getElem_toArray, List.getElem_cons_zero]
    try simp only [Act.put, List.setIfInBounds_toArray, List.set_cons_zero, List.set_cons_succ]
    refine wpAnyH_take (i := 1) (v := .int .i64 ki) rfl (by kernel_rfl) (by kernel_rfl) (by kernel_rfl) (fun _ _ _ h => h) (Or.inl ⟨by rfl, ?_⟩) (by assumption) ?_
    · intro X hX
      obtain ⟨c0, c1, c2, c3, c4, c5, c6, c7⟩ := hX
      go_simp
    try simp only [List.getElem_toArray, List.getElem_cons_succ, List.getElem_cons_zero]
    try simp only [Act.put, List.setIfInBounds_toArray, List.set_cons_zero, List.set_cons_succ]
    refine wpAnyH_take (i := 2) (v := ?_) rfl (by kernel_rfl) (by kernel_rfl) (by kernel_rfl) (fun _ _ _ h => h) (Or.inl ⟨by rfl, ?_⟩) (by assumption) ?_
    rotate_left
    · intro X hX
      go_simp
      try with_reducible rfl
    try simp only [List.getElem_toArray, List.getElem_cons_succ, List.getElem_cons_zero]
    try simp only [Act.put, List.setIfInBounds_toArray, List.set_cons_zero, List.set_cons_succ]
    refine wpAnyH_take (i := 3) (v := .int .i64 st) rfl (by kernel_rfl) (by kernel_rfl) (by kernel_rfl) (fun _ _ _ h => h) (Or.inl ⟨by rfl, ?_⟩) (by assumption) ?_
    · intro X hX
      obtain ⟨c0, c1, c2, c3, c4, c5, c6, c7⟩ := hX
      go_simp
    try simp only [List.getElem_toArray, List.getElem_cons_succ, List.getElem_cons_zero]
    try simp only [Act.put, List.setIfInBounds_toArray, List.set_cons_zero, List.set_cons_succ]
    refine wpAnyH_take (i := 4) (v := ?_) rfl (by kernel_rfl) (by kernel_rfl) (by kernel_rfl) (fun _ _ _ h => h) (Or.inl ⟨by rfl, ?_⟩) (by assumption) ?_
    rotate_left
    · intro X hX
      go_simp
      try with_reducible rfl
    try simp only [List.getElem_toArray, List.getElem_cons_succ, List.getElem_cons_zero]
    try simp only [Act.put, List.setIfInBounds_toArray, List.set_cons_zero, List.set_cons_succ]
    refine wpAnyH_take (i := 5) (v := .int .i64 ep) rfl (by kernel_rfl) (by kernel_rfl) (by kernel_rfl) (fun _ _ _ h => h) (Or.inl ⟨by rfl, ?_⟩) (by assumption) ?_
    · intro X hX
      obtain ⟨c0, c1, c2, c3, c4, c5, c6, c7⟩ := hX
      go_simp
    try simp only [List.getElem_toArray, List.getElem_cons_succ, List.getElem_cons_zero]
    try simp only [Act.put, List.setIfInBounds_toArray, List.set_cons_zero, List.set_cons_succ]
    refine wpAnyH_take (i := 6) (v := ?_) rfl (by kernel_rfl) (by kernel_rfl) (by kernel_rfl) (fun _ _ _ h => h) (Or.inl ⟨by rfl, ?_⟩) (by assumption) ?_
    rotate_left
    · intro X hX
      go_simp
      try with_reducible rfl
    try simp only [List.getElem_toArray, List.getElem_cons_succ, List.getElem_cons_zero]
    try simp only [Act.put, List.setIfInBounds_toArray, List.set_cons_zero, List.set_cons_succ]
    refine wpAnyH_take (i := 7) (v := .int .i64 vi) rfl (by kernel_rfl) (by kernel_rfl) (by kernel_rfl) (fun _ _ _ h => h) (Or.inl ⟨by rfl, ?_⟩) (by assumption) ?_
    · intro X hX
      obtain ⟨c0, c1, c2, c3, c4, c5, c6, c7⟩ := hX
      go_simp
    try simp only [List.getElem_toArray, List.getElem_cons_succ, List.getElem_cons_zero]
    try simp only [Act.put, List.setIfInBounds_toArray, List.set_cons_zero, List.set_cons_succ]
    refine wpAnyH_take (i := 8) (v := ?_) rfl (by kernel_rfl) (by kernel_rfl) (by kernel_rfl) (fun _ _ _ h => h) (Or.inl ⟨by rfl, ?_⟩) (by assumption) ?_
    rotate_left
    · intro X hX
      go_simp
      try with_reducible rfl
    try simp only [List.getElem_toArray, List.getElem_cons_succ, List.getElem_cons_zero]
    try simp only [Act.put, List.setIfInBounds_toArray, List.set_cons_zero, List.set_cons_succ]
    refine wpAnyH_take (i := 9) (v := .int .i64 fr) rfl (by kernel_rfl) (by kernel_rfl) (by kernel_rfl) (fun _ _ _ h => h) (Or.inl ⟨by rfl, ?_⟩) (by assumption) ?_
    · intro X hX
      obtain ⟨c0, c1, c2, c3, c4, c5, c6, c7⟩ := hX
      go_simp
    try simp only [List.getElem_toArray, List.getElem_cons_succ, List.getElem_cons_zero]
    try simp only [Act.put, List.setIfInBounds_toArray, List.set_cons_zero, List.set_cons_succ]
    refine wpAnyH_take (i := 10) (v := ?_) rfl (by kernel_rfl) (by kernel_rfl) (by kernel_rfl) (fun _ _ _ h => h) (Or.inl ⟨by rfl, ?_⟩) (by assumption) ?_
    rotate_left
    · intro X hX
      go_simp
      try with_reducible rfl
    try simp only [List.getElem_toArray, List.getElem_cons_succ, List.getElem_cons_zero]
    try simp only [Act.put, List.setIfInBounds_toArray, List.set_cons_zero, List.set_cons_succ]
    refine wpAnyH_take (i := 11) (v := .int .i64 le) rfl (by kernel_rfl) (by kernel_rfl) (by kernel_rfl) (fun _ _ _ h => h) (Or.inl ⟨by rfl, ?_⟩) (by assumption) ?_
    · intro X hX
      obtain ⟨c0, c1, c2, c3, c4, c5, c6, c7⟩ := hX
      go_simp
    try simp only [List.getElem_toArray, List.getElem_cons_succ, List.getElem_cons_zero]
    try simp only [Act.put, List.setIfInBounds_toArray, List.set_cons_zero, List.set_cons_succ]
    refine wpAnyH_take (i := 14) (v := ?_) rfl (by kernel_rfl) (by kernel_rfl) (by kernel_rfl) (fun _ _ _ h => h) (Or.inl ⟨by rfl, ?_⟩) (by assumption) ?_
    rotate_left
    · intro X hX
      go_simp
      try with_reducible rfl
    try simp only [List.getElem_toArray, List.getElem_cons_succ, List.getElem_cons_zero]
    try simp only [Act.put, List.setIfInBounds_toArray, List.set_cons_zero, List.set_cons_succ]
    refine wpAnyH_take (i := 15) (v := .slice A es.length c) rfl (by kernel_rfl) (by kernel_rfl) (by kernel_rfl) (fun _ _ _ h => h) (Or.inl ⟨by rfl, ?_⟩) (by assumption) ?_
    · intro X hX
      obtain ⟨c0, c1, c2, c3, c4, c5, c6, c7⟩ := hX
      go_simp
    try simp only [List.getElem_toArray, List.getElem_cons_succ, List.getElem_cons_zero]
    try simp only [Act.put, List.setIfInBounds_toArray, List.set_cons_zero, List.set_cons_succ]
    refine wpAnyH_take (i := 18) (v := ?_) rfl (by kernel_rfl) (by kernel_rfl) (by kernel_rfl) (fun _ _ _ h => h) (Or.inl ⟨by rfl, ?_⟩) (by assumption) ?_
    rotate_left
    · intro X hX
      go_simp
      try with_reducible rfl
    try simp only [List.getElem_toArray, List.getElem_cons_succ, List.getElem_cons_zero]
    try simp only [Act.put, List.setIfInBounds_toArray, List.set_cons_zero, List.set_cons_succ]
    refine wpAnyH_take (i := 19) (v := .slice A' fd.length c') rfl (by kernel_rfl) (by kernel_rfl) (by kernel_rfl) (fun _ _ _ h => h) (Or.inl ⟨by rfl, ?_⟩) (by assumption) ?_
    · intro X hX
      obtain ⟨c0, c1, c2, c3, c4, c5, c6, c7⟩ := hX
      go_simp
    try simp only [List.getElem_toArray, List.getElem_cons_succ, List.getElem_cons_zero]
    try simp only [Act.put, List.setIfInBounds_toArray, List.set_cons_zero, List.set_cons_succ]
    refine wpAnyH_take (i := 20) (v := ?_) rfl (by kernel_rfl) (by kernel_rfl) (by kernel_rfl) (fun _ _ _ h => h) (Or.inl ⟨by rfl, ?_⟩) (by assumption) ?_
    rotate_left
    · intro X hX
      go_simp
      try with_reducible rfl
    try simp only [List.getElem_toArray, List.getElem_cons_succ, List.getElem_cons_zero]
    try simp only [Act.put, List.setIfInBounds_toArray, List.set_cons_zero, List.set_cons_succ]
    refine wpAnyH_ready (rs := [12,21]) (by kernel_rfl) (by simp) (AllReadyH.cons rfl (fun K hK => ?_) (AllReadyH.cons rfl (fun K hK => ?_) AllReadyH.nil))
    · refine step_build_new rfl 57 6 _ #[(0, .int .i64 ki), (1, .int .i64 st), (2, .int .i64 ep), (3, .int .i64 vi), (4, .int .i64 fr), (5, .int .i64 le)] rfl (by simp [Act.eval]) #[.int .i64 ki, .int .i64 st, .int .i64 ep, .int .i64 vi, .int .i64 fr, .int .i64 le] 3 (build6i_run ki st ep vi fr le) ?_
      intro gN1 wn hN1 hgN1b hb
      replace hX := keepH hb hX
      replace hW := keepB hW hb
      clear hgN1b
      clear hb
      have hH := hS'.out _ hX
      refine hK.out _ _ ?_ (fun hHeld => ?_)
      · with_reducible exact hH
      clear hK K hH
      try simp only [List.getElem_toArray, List.getElem_cons_succ, List.getElem_cons_zero]
      try simp only [Act.put, List.setIfInBounds_toArray, List.set_cons_zero, List.set_cons_succ]
      refine wpAnyH_ready (rs := [13,21]) (by kernel_rfl) (by simp) (AllReadyH.cons rfl (fun K hK => ?_) (AllReadyH.cons rfl (fun K hK => ?_) AllReadyH.nil))
      · go_simp
        refine (HC1.out _ _ hN1).mono ?_
        rintro e wm ⟨rfl, hb⟩
        replace hX := keepH hb hX
        replace hW := keepB hW hb
        clear hN1
        clear hb
        have hH := hS'.out _ hX
        go_wp2_with fail
        refine hK.out _ _ ?_ (fun hHeld => ?_)
        · with_reducible exact hH
        clear hK K hH
        try simp only [List.getElem_toArray, List.getElem_cons_succ, List.getElem_cons_zero]
        try simp only [Act.put, List.setIfInBounds_toArray, List.set_cons_zero, List.set_cons_succ]
        refine wpAnyH_ready (rs := [16,21]) (by kernel_rfl) (by simp) (AllReadyH.cons rfl (fun K hK => ?_) (AllReadyH.cons rfl (fun K hK => ?_) AllReadyH.nil))
        · go_simp
          refine (HC2.out _ (keepB hB2 hW)).mono ?_
          rintro e wm ⟨rfl, hb⟩
          replace hX := keepH hb hX
          replace hW := keepB hW hb
          clear hb
          have hH := hS'.out _ hX
          go_wp2_with fail
          refine hK.out _ _ ?_ (fun hHeld => ?_)
          · with_reducible exact hH
          clear hK K hH
          try simp only [List.getElem_toArray, List.getElem_cons_succ, List.getElem_cons_zero]
          try simp only [Act.put, List.setIfInBounds_toArray, List.set_cons_zero, List.set_cons_succ]
          refine wpAnyH_take (i := 17) (v := ?_) rfl (by kernel_rfl) (by kernel_rfl) (by kernel_rfl) (fun _ _ _ h => h) (Or.inl ⟨by rfl, ?_⟩) (by assumption) ?_
          rotate_left
          · intro X hX
            go_simp
            try with_reducible rfl
          try simp only [List.getElem_toArray, List.getElem_cons_succ, List.getElem_cons_zero]
          try simp only [Act.put, List.setIfInBounds_toArray, List.set_cons_zero, List.set_cons_succ]
          refine wpAnyH_ready (rs := [21]) (by kernel_rfl) (by simp) (AllReadyH.cons rfl (fun K hK => ?_) AllReadyH.nil)
          · refine step_build_new rfl 57 1 _ #[(0, .int .i64 (fd.length : Int))] rfl (by simp [Act.eval]) #[.int .i64 (fd.length : Int)] 3 (build1i_run (fd.length : Int)) ?_
            intro gN2 wn hN2 hgN2b hb
            replace hX := keepH hb hX
            replace hW := keepB hW hb
            clear hgN2b
            clear hb
            have hH := hS'.out _ hX
            refine hK.out _ _ ?_ (fun hHeld => ?_)
            · with_reducible exact hH
            clear hK K hH
            try simp only [List.getElem_toArray, List.getElem_cons_succ, List.getElem_cons_zero]
            try simp only [Act.put, List.setIfInBounds_toArray, List.set_cons_zero, List.set_cons_succ]
            refine wpAnyH_ready (rs := [22]) (by kernel_rfl) (by simp) (AllReadyH.cons rfl (fun K hK => ?_) AllReadyH.nil)
            · go_simp
              refine (HC3.out _ _ hN2).mono ?_
              rintro e wm ⟨rfl, hb⟩
              replace hX := keepH hb hX
              replace hW := keepB hW hb
              clear hN2
              clear hb
              have hH := hS'.out _ hX
              go_wp2_with fail
              refine hK.out _ _ ?_ (fun hHeld => ?_)
              · with_reducible exact hH
              clear hK K hH
              try simp only [List.getElem_toArray, List.getElem_cons_succ, List.getElem_cons_zero]
              try simp only [Act.put, List.setIfInBounds_toArray, List.set_cons_zero, List.set_cons_succ]
              refine wpAnyH_take (i := 23) (v := ?_) rfl (by kernel_rfl) (by kernel_rfl) (by kernel_rfl) (fun _ _ _ h => h) (Or.inl ⟨by rfl, ?_⟩) (by assumption) ?_
              rotate_left
              · intro X hX
                go_simp
                try with_reducible rfl
              try simp only [List.getElem_toArray, List.getElem_cons_succ, List.getElem_cons_zero]
              try simp only [Act.put, List.setIfInBounds_toArray, List.set_cons_zero, List.set_cons_succ]
              refine wpAnyH_take (i := 24) (v := ?_) rfl (by kernel_rfl) (by kernel_rfl) (by kernel_rfl) (fun _ _ _ h => h) (Or.inl ⟨by rfl, ?_⟩) (by assumption) ?_
              rotate_left
              · intro X hX
                go_simp
                try with_reducible rfl
              try simp only [List.getElem_toArray, List.getElem_cons_succ, List.getElem_cons_zero]
              try simp only [Act.put, List.setIfInBounds_toArray, List.set_cons_zero, List.set_cons_succ]
              refine wpAnyH_done (by kernel_rfl) ?_ _
              go_wp2_with fail
              go_meet
              case rel => exact ⟨rfl, Lib.hid hX, Lib.hid (keepB hB2 hW)⟩
        · refine step_build_new rfl 57 1 _ #[(0, .int .i64 (fd.length : Int))] rfl (by simp [Act.eval]) #[.int .i64 (fd.length : Int)] 3 (build1i_run (fd.length : Int)) ?_
          intro gN2 wn hN2 hgN2b hb
          replace hX := keepH hb hX
          replace hW := keepB hW hb
          clear hgN2b
          clear hb
          have hH := hS'.out _ hX
          refine hK.out _ _ ?_ (fun hHeld => ?_)
          · with_reducible exact hH
          clear hK K hH
          try simp only [List.getElem_toArray, List.getElem_cons_succ, List.getElem_cons_zero]
          try simp only [Act.put, List.setIfInBounds_toArray, List.set_cons_zero, List.set_cons_succ]
          refine wpAnyH_ready (rs := [16]) (by kernel_rfl) (by simp) (AllReadyH.cons rfl (fun K hK => ?_) AllReadyH.nil)
          · go_simp
            refine (HC2.out _ (keepB hB2 hW)).mono ?_
            rintro e wm ⟨rfl, hb⟩
            replace hX := keepH hb hX
            replace hW := keepB hW hb
            replace hN2 := keepH hb hN2
            clear hb
            have hH := hS'.out _ hX
            go_wp2_with fail
            refine hK.out _ _ ?_ (fun hHeld => ?_)
            · with_reducible exact hH
            clear hK K hH
            try simp only [List.getElem_toArray, List.getElem_cons_succ, List.getElem_cons_zero]
            try simp only [Act.put, List.setIfInBounds_toArray, List.set_cons_zero, List.set_cons_succ]
            refine wpAnyH_take (i := 17) (v := ?_) rfl (by kernel_rfl) (by kernel_rfl) (by kernel_rfl) (fun _ _ _ h => h) (Or.inl ⟨by rfl, ?_⟩) (by assumption) ?_
            rotate_left
            · intro X hX
              go_simp
              try with_reducible rfl
            try simp only [List.getElem_toArray, List.getElem_cons_succ, List.getElem_cons_zero]
            try simp only [Act.put, List.setIfInBounds_toArray, List.set_cons_zero, List.set_cons_succ]
            refine wpAnyH_ready (rs := [22]) (by kernel_rfl) (by simp) (AllReadyH.cons rfl (fun K hK => ?_) AllReadyH.nil)
            · go_simp
              refine (HC3.out _ _ hN2).mono ?_
              rintro e wm ⟨rfl, hb⟩
              replace hX := keepH hb hX
              replace hW := keepB hW hb
              clear hN2
              clear hb
              have hH := hS'.out _ hX
              go_wp2_with fail
              refine hK.out _ _ ?_ (fun hHeld => ?_)
              · with_reducible exact hH
              clear hK K hH
              try simp only [List.getElem_toArray, List.getElem_cons_succ, List.getElem_cons_zero]
              try simp only [Act.put, List.setIfInBounds_toArray, List.set_cons_zero, List.set_cons_succ]
              refine wpAnyH_take (i := 23) (v := ?_) rfl (by kernel_rfl) (by kernel_rfl) (by kernel_rfl) (fun _ _ _ h => h) (Or.inl ⟨by rfl, ?_⟩) (by assumption) ?_
              rotate_left
              · intro X hX
                go_simp
                try with_reducible rfl
              try simp only [List.getElem_toArray, List.getElem_cons_succ, List.getElem_cons_zero]
              try simp only [Act.put, List.setIfInBounds_toArray, List.set_cons_zero, List.set_cons_succ]
              refine wpAnyH_take (i := 24) (v := ?_) rfl (by kernel_rfl) (by kernel_rfl) (by kernel_rfl) (fun _ _ _ h => h) (Or.inl ⟨by rfl, ?_⟩) (by assumption) ?_
              rotate_left
              · intro X hX
                go_simp
                try with_reducible rfl
              try simp only [List.getElem_toArray, List.getElem_cons_succ, List.getElem_cons_zero]
              try simp only [Act.put, List.setIfInBounds_toArray, List.set_cons_zero, List.set_cons_succ]
              refine wpAnyH_done (by kernel_rfl) ?_ _
              go_wp2_with fail
              go_meet
              case rel => exact ⟨rfl, Lib.hid hX, Lib.hid (keepB hB2 hW)⟩
      · refine step_build_new rfl 57 1 _ #[(0, .int .i64 (fd.length : Int))] rfl (by simp [Act.eval]) #[.int .i64 (fd.length : Int)] 3 (build1i_run (fd.length : Int)) ?_
        intro gN2 wn hN2 hgN2b hb
        replace hX := keepH hb hX
        replace hW := keepB hW hb
        replace hN1 := keepH hb hN1
        clear hgN2b
        clear hb
        have hH := hS'.out _ hX
        refine hK.out _ _ ?_ (fun hHeld => ?_)
        · with_reducible exact hH
        clear hK K hH
        try simp only [List.getElem_toArray, List.getElem_cons_succ, List.getElem_cons_zero]
        try simp only [Act.put, List.setIfInBounds_toArray, List.set_cons_zero, List.set_cons_succ]
        refine wpAnyH_ready (rs := [13]) (by kernel_rfl) (by simp) (AllReadyH.cons rfl (fun K hK => ?_) AllReadyH.nil)
        · go_simp
          refine (HC1.out _ _ hN1).mono ?_
          rintro e wm ⟨rfl, hb⟩
          replace hX := keepH hb hX
          replace hW := keepB hW hb
          replace hN2 := keepH hb hN2
          clear hN1
          clear hb
          have hH := hS'.out _ hX
          go_wp2_with fail
          refine hK.out _ _ ?_ (fun hHeld => ?_)
          · with_reducible exact hH
          clear hK K hH
          try simp only [List.getElem_toArray, List.getElem_cons_succ, List.getElem_cons_zero]
          try simp only [Act.put, List.setIfInBounds_toArray, List.set_cons_zero, List.set_cons_succ]
          refine wpAnyH_ready (rs := [16]) (by kernel_rfl) (by simp) (AllReadyH.cons rfl (fun K hK => ?_) AllReadyH.nil)
          · go_simp
            refine (HC2.out _ (keepB hB2 hW)).mono ?_
            rintro e wm ⟨rfl, hb⟩
            replace hX := keepH hb hX
            replace hW := keepB hW hb
            replace hN2 := keepH hb hN2
            clear hb
            have hH := hS'.out _ hX
            go_wp2_with fail
            refine hK.out _ _ ?_ (fun hHeld => ?_)
            · with_reducible exact hH
            clear hK K hH
            try simp only [List.getElem_toArray, List.getElem_cons_succ, List.getElem_cons_zero]
            try simp only [Act.put, List.setIfInBounds_toArray, List.set_cons_zero, List.set_cons_succ]
            refine wpAnyH_take (i := 17) (v := ?_) rfl (by kernel_rfl) (by kernel_rfl) (by kernel_rfl) (fun _ _ _ h => h) (Or.inl ⟨by rfl, ?_⟩) (by assumption) ?_
            rotate_left
            · intro X hX
              go_simp
              try with_reducible rfl
            try simp only [List.getElem_toArray, List.getElem_cons_succ, List.getElem_cons_zero]
            try simp only [Act.put, List.setIfInBounds_toArray, List.set_cons_zero, List.set_cons_succ]
            refine wpAnyH_ready (rs := [22]) (by kernel_rfl) (by simp) (AllReadyH.cons rfl (fun K hK => ?_) AllReadyH.nil)
            · go_simp
              refine (HC3.out _ _ hN2).mono ?_
              rintro e wm ⟨rfl, hb⟩
              replace hX := keepH hb hX
              replace hW := keepB hW hb
              clear hN2
              clear hb
              have hH := hS'.out _ hX
              go_wp2_with fail
              refine hK.out _ _ ?_ (fun hHeld => ?_)
              · with_reducible exact hH
              clear hK K hH
              try simp only [List.getElem_toArray, List.getElem_cons_succ, List.getElem_cons_zero]
              try simp only [Act.put, List.setIfInBounds_toArray, List.set_cons_zero, List.set_cons_succ]
              refine wpAnyH_take (i := 23) (v := ?_) rfl (by kernel_rfl) (by kernel_rfl) (by kernel_rfl) (fun _ _ _ h => h) (Or.inl ⟨by rfl, ?_⟩) (by assumption) ?_
              rotate_left
              · intro X hX
                go_simp
                try with_reducible rfl
              try simp only [List.getElem_toArray, List.getElem_cons_succ, List.getElem_cons_zero]
              try simp only [Act.put, List.setIfInBounds_toArray, List.set_cons_zero, List.set_cons_succ]
              refine wpAnyH_take (i := 24) (v := ?_) rfl (by kernel_rfl) (by kernel_rfl) (by kernel_rfl) (fun _ _ _ h => h) (Or.inl ⟨by rfl, ?_⟩) (by assumption) ?_
              rotate_left
              · intro X hX
                go_simp
                try with_reducible rfl
              try simp only [List.getElem_toArray, List.getElem_cons_succ, List.getElem_cons_zero]
              try simp only [Act.put, List.setIfInBounds_toArray, List.set_cons_zero, List.set_cons_succ]
              refine wpAnyH_done (by kernel_rfl) ?_ _
              go_wp2_with fail
              go_meet
              case rel => exact ⟨rfl, Lib.hid hX, Lib.hid (keepB hB2 hW)⟩
    · refine step_build_new rfl 57 1 _ #[(0, .int .i64 (fd.length : Int))] rfl (by simp [Act.eval]) #[.int .i64 (fd.length : Int)] 3 (build1i_run (fd.length : Int)) ?_
      intro gN2 wn hN2 hgN2b hb
      replace hX := keepH hb hX
      replace hW := keepB hW hb
      clear hgN2b
      clear hb
      have hH := hS'.out _ hX
      refine hK.out _ _ ?_ (fun hHeld => ?_)
      · with_reducible exact hH
      clear hK K hH
      try simp only [List.getElem_toArray, List.getElem_cons_succ, List.getElem_cons_zero]
      try simp only [Act.put, List.setIfInBounds_toArray, List.set_cons_zero, List.set_cons_succ]
      refine wpAnyH_ready (rs := [12]) (by kernel_rfl) (by simp) (AllReadyH.cons rfl (fun K hK => ?_) AllReadyH.nil)
      · refine step_build_new rfl 57 6 _ #[(0, .int .i64 ki), (1, .int .i64 st), (2, .int .i64 ep), (3, .int .i64 vi), (4, .int .i64 fr), (5, .int .i64 le)] rfl (by simp [Act.eval]) #[.int .i64 ki, .int .i64 st, .int .i64 ep, .int .i64 vi, .int .i64 fr, .int .i64 le] 3 (build6i_run ki st ep vi fr le) ?_
        intro gN1 wn hN1 hgN1b hb
        replace hX := keepH hb hX
        replace hW := keepB hW hb
        replace hN2 := keepH hb hN2
        clear hgN1b
        clear hb
        have hH := hS'.out _ hX
        refine hK.out _ _ ?_ (fun hHeld => ?_)
        · with_reducible exact hH
        clear hK K hH
        try simp only [List.getElem_toArray, List.getElem_cons_succ, List.getElem_cons_zero]
        try simp only [Act.put, List.setIfInBounds_toArray, List.set_cons_zero, List.set_cons_succ]
        refine wpAnyH_ready (rs := [13]) (by kernel_rfl) (by simp) (AllReadyH.cons rfl (fun K hK => ?_) AllReadyH.nil)
        · go_simp
          refine (HC1.out _ _ hN1).mono ?_
          rintro e wm ⟨rfl, hb⟩
          replace hX := keepH hb hX
          replace hW := keepB hW hb
          replace hN2 := keepH hb hN2
          clear hN1
          clear hb
          have hH := hS'.out _ hX
          go_wp2_with fail
          refine hK.out _ _ ?_ (fun hHeld => ?_)
          · with_reducible exact hH
          clear hK K hH
          try simp only [List.getElem_toArray, List.getElem_cons_succ, List.getElem_cons_zero]
          try simp only [Act.put, List.setIfInBounds_toArray, List.set_cons_zero, List.set_cons_succ]
          refine wpAnyH_ready (rs := [16]) (by kernel_rfl) (by simp) (AllReadyH.cons rfl (fun K hK => ?_) AllReadyH.nil)
          · go_simp
            refine (HC2.out _ (keepB hB2 hW)).mono ?_
            rintro e wm ⟨rfl, hb⟩
            replace hX := keepH hb hX
            replace hW := keepB hW hb
            replace hN2 := keepH hb hN2
            clear hb
            have hH := hS'.out _ hX
            go_wp2_with fail
            refine hK.out _ _ ?_ (fun hHeld => ?_)
            · with_reducible exact hH
            clear hK K hH
            try simp only [List.getElem_toArray, List.getElem_cons_succ, List.getElem_cons_zero]
            try simp only [Act.put, List.setIfInBounds_toArray, List.set_cons_zero, List.set_cons_succ]
            refine wpAnyH_take (i := 17) (v := ?_) rfl (by kernel_rfl) (by kernel_rfl) (by kernel_rfl) (fun _ _ _ h => h) (Or.inl ⟨by rfl, ?_⟩) (by assumption) ?_
            rotate_left
            · intro X hX
              go_simp
              try with_reducible rfl
            try simp only [List.getElem_toArray, List.getElem_cons_succ, List.getElem_cons_zero]
            try simp only [Act.put, List.setIfInBounds_toArray, List.set_cons_zero, List.set_cons_succ]
            refine wpAnyH_ready (rs := [22]) (by kernel_rfl) (by simp) (AllReadyH.cons rfl (fun K hK => ?_) AllReadyH.nil)
            · go_simp
              refine (HC3.out _ _ hN2).mono ?_
              rintro e wm ⟨rfl, hb⟩
              replace hX := keepH hb hX
              replace hW := keepB hW hb
              clear hN2
              clear hb
              have hH := hS'.out _ hX
              go_wp2_with fail
              refine hK.out _ _ ?_ (fun hHeld => ?_)
              · with_reducible exact hH
              clear hK K hH
              try simp only [List.getElem_toArray, List.getElem_cons_succ, List.getElem_cons_zero]
              try simp only [Act.put, List.setIfInBounds_toArray, List.set_cons_zero, List.set_cons_succ]
              refine wpAnyH_take (i := 23) (v := ?_) rfl (by kernel_rfl) (by kernel_rfl) (by kernel_rfl) (fun _ _ _ h => h) (Or.inl ⟨by rfl, ?_⟩) (by assumption) ?_
              rotate_left
              · intro X hX
                go_simp
                try with_reducible rfl
              try simp only [List.getElem_toArray, List.getElem_cons_succ, List.getElem_cons_zero]
              try simp only [Act.put, List.setIfInBounds_toArray, List.set_cons_zero, List.set_cons_succ]
              refine wpAnyH_take (i := 24) (v := ?_) rfl (by kernel_rfl) (by kernel_rfl) (by kernel_rfl) (fun _ _ _ h => h) (Or.inl ⟨by rfl, ?_⟩) (by assumption) ?_
              rotate_left
              · intro X hX
                go_simp
                try with_reducible rfl
              try simp only [List.getElem_toArray, List.getElem_cons_succ, List.getElem_cons_zero]
              try simp only [Act.put, List.setIfInBounds_toArray, List.set_cons_zero, List.set_cons_succ]
              refine wpAnyH_done (by kernel_rfl) ?_ _
              go_wp2_with fail
              go_meet
              case rel => exact ⟨rfl, Lib.hid hX, Lib.hid (keepB hB2 hW)⟩
  case rest =>
  obtain ⟨rfl, h_rc, hBc⟩ := hcut
  clear HC2 HC1 HC3 RS1 RS2 h_r2 hB2
  have HSS : Hid (S1 ++ S2 ++ S3 = ⟨(markL [ki, st, ep, vi, fr, le] ++ markL (esL es) ++ markL ((fd.length : Int) :: ((fd.take 0).map Sp.l).flatten)).toArray⟩) := by
    show _ = _
    rw [HS1.out, HS2.out, HS3.out, str_mk, str_mk]; rfl
  have HSZ : Hid (∀ k, (markL [ki, st, ep, vi, fr, le] ++ markL (esL es) ++ markL ((fd.length : Int) :: ((fd.take k).map Sp.l).flatten)).length ≤ 60000) := Lib.hid fun k => by
    have h1 := HLH.out
    have h2 : (markL (esL es)).length ≤ 20000 := HLE.out
    have h3 := fdL_bd HFI.out hf256 k
    simp only [List.length_append]
    simp at h1
    omega
  generalize S1 ++ S2 ++ S3 = S0 at *
  clear HS1 HS2 HS3 hs1 hs2 hs3 hs12 hs23 hs12s hz12 hz23 hfi HLH HLE HIH d0 d1 d2 d3 d4 d5 d6 d7
  go_wp2_with fail
  go_loopw [4, 5] (fun s i wr => ∃ (k : Nat) (S : ByteArray), k ≤ fd.length ∧ i = .int .i64 k ∧ s = .string S ∧ Hid (S = ⟨(markL [ki, st, ep, vi, fr, le] ++ markL (esL es) ++ markL ((fd.length : Int) :: ((fd.take k).map Sp.l).flatten)).toArray⟩) ∧ Hid (wr.heap[w.heap.size]? = some (.cells #[.int .i64 ki, .int .i64 st, .int .i64 ep, .int .i64 vi, .int .i64 fr, .int .i64 le, .slice A es.length c, .slice A' fd.length c'] 25 (0, 0))) ∧ Hid (Below w.heap.size w wr)) (fun _ i _ => fd.length - (intOf i).toNat)
  case atStart => exact ⟨0, S0, Nat.zero_le _, rfl, rfl, HSS, h_rc, hBc⟩
  case round =>
    obtain ⟨k, S, hk, rfl, rfl, HS, HX, HB⟩ := hrel
    clear h_rc hBc HSS
    have hwr := HB.out.size
    have d7 := (HFS.out wr HX.out).2.2.2.2.2.2.2
    by_cases hlt : k < fd.length
    · obtain ⟨b1, o1, c1', hv, hbb1, x0, x1⟩ := FdB.cells (HFB.out wr HB.out) hlt
      injection hv with e1 e2 e3
      subst e1 e3
      clear e2
      have hii : (k : Int) < (fd.length : Int) := by omega
      have HT := Lib.hid (fdL_take hlt)
      have hs1 : S.size ≤ 60000 := by rw [str_len HS.out]; exact HSZ.out k
      have hix := HFI.out fd[k] (List.getElem_mem hlt)
      generalize fd[k] = x at *
      obtain ⟨xa, xi⟩ := x
      simp only at x0 x1
      obtain ⟨S2, HS2⟩ : ∃ S : ByteArray, Hid (S = ⟨(markL (Sp.l ⟨xa, xi⟩)).toArray⟩) := ⟨_, Lib.hid rfl⟩
      have hs2 : S2.size ≤ 20000 := by
        rw [str_len HS2.out]
        have := (markL_len hix).2
        simp [Sp.l] at this ⊢
        omega
      have hbl : b1 < wr.heap.size := Nat.lt_of_lt_of_le hbb1 hwr
      have hbr : w.heap.size < wr.heap.size := heap_lt HX.out
      obtain ⟨w7, HX7⟩ : ∃ W : World, Hid (W = (wr.alloc (.cells #[.int .i64 xa, .int .i64 xi] 3)).drew) := ⟨_, Lib.hid rfl⟩
      have hr7 : IntRow w7 wr.heap.size (Sp.l ⟨xa, xi⟩) := by rw [HX7.out]; exact heap_alloc_new wr _
      have G7 : Hid (Calls Tryd.prog 33 #[.slice (some ⟨wr.heap.size, 0, none⟩) 2 2] w7 (StrPost S2 w7)) := by
        show Calls _ _ _ _ _
        rw [HS2.out]
        exact rints_any hr7 hix (by simp [Sp.l])
      rw [HX7.out] at G7
      have n0 := World.new_ne wr.drew ⟨b1, o1 + k * 2, none⟩ (u := .int .i64 xa) x0
      have n1 := World.new_ne wr.drew ⟨w.heap.size, 7, none⟩ (u := .slice (some ⟨b1, o1, none⟩) fd.length c') d7
      have hs3 : S.size + S2.size ≤ 9223372036854775807 := by omega
      have RS : ∀ X, (Op.stringOp .add S S2).run Tryd.prog X = .ok (.string (S ++ S2)) X := fun X => run_string_add_sum X S S2 hs3
      have hs4 : ¬ (S.size + S2.size > 9223372036854775807) := by omega
      have HSN : Hid (S ++ S2 = ⟨(markL [ki, st, ep, vi, fr, le] ++ markL (esL es) ++ markL ((fd.length : Int) :: ((fd.take (k + 1)).map Sp.l).flatten)).toArray⟩) := by
        show _ = _
        rw [HS.out, HS2.out, str_mk, HT.out]; simp [List.append_assoc]
      clear hr7 hix HT HS HS2 HSZ HFI HFB HFS HP
      go_wp2_with fail
      go_region_held3 (fun X => X.cell? ⟨w.heap.size, 7, none⟩ = some (.slice (some ⟨b1, o1, none⟩) fd.length c') ∧ X.cell? ⟨b1, o1 + k * 2, none⟩ = some (.int .i64 xa) ∧ X.cell? ⟨b1, o1 + k * 2 + 1, none⟩ = some (.int .i64 xi))
        (first | exact hS | go_keep) ((go_at_call 33; (refine (G7.out).mono ?_); rintro e w8 ⟨rfl, hb⟩; have hB8 : Below wr.heap.size wr w8 := (((Below.refl _ _).alloc (Nat.le_refl _) _).drew.trans (hb.mono (by simp))); have hS : w8.cell? ⟨w.heap.size, 7, none⟩ = some (.slice (some ⟨b1, o1, none⟩) fd.length c') ∧ w8.cell? ⟨b1, o1 + k * 2, none⟩ = some (.int .i64 xa) ∧ w8.cell? ⟨b1, o1 + k * 2 + 1, none⟩ = some (.int .i64 xi) := ⟨(hB8.cell (p := ⟨w.heap.size, 7, none⟩) hbr).trans d7, (hB8.cell (p := ⟨b1, o1 + k * 2, none⟩) hbl).trans x0, (hB8.cell (p := ⟨b1, o1 + k * 2 + 1, none⟩) hbl).trans x1⟩))
      have HB8 := Lib.hid (keepB HB.out hB8)
      have HX8 := Lib.hid (keepH hB8 HX.out)
      clear hB8 hS hb x0 x1 n0 n1 d7
      go_wp2_with fail
      go_roundw
      case rel => exact ⟨k + 1, S ++ S2, by omega, by go_num, rfl, HSN, HX8, HB8⟩
      case measure => simp [intOf]; omega
    · have HX' : Hid (S = ⟨L.toArray⟩) := by
        show _ = _
        rw [HS.out, List.take_of_length_le (by omega), HP.out]; simp [fdL, List.append_assoc]
      clear hk HS HSZ
      go_wp2_with fail
      go_ret2
      exact ⟨by rw [← HX'.out]; rfl, HB.out⟩
theorem rrEnc_any (r : Rec) {ve vf : Value} {w : World} (hE : EsB w.heap.size w ve r.es) (hF : FdB w.heap.size w vf r.fd) :
    Calls Tryd.prog 9 #[r.v ve vf] w (NumPost r.encR w) := by
  unfold Rec.encR
  rcases hm : r.may with _ | _
  · exact rrEnc_no r hE hF hm
  · exact rrEnc_yes r hE hF hm
end Go.Proofs.YtkdnhfeamibmdaaDoor
