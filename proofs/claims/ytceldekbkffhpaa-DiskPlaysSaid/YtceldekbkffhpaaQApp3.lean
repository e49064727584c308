/-
  The contract of Append of the document's disk: a new file; and all of it.
-/
import Derived.Test.YtceldekbkffhpaaQApp2
namespace Go.Proofs.Ytceldekbkffhpaa
open Go.RowKit
theorem find_new {fs : List Dsk.Fl} {nm : ByteArray} (hr : Dsk.Rise (Dsk.names fs)) (hm : nm ∉ Dsk.names fs) : findI (fs.insertIdx (Dsk.place (Dsk.names fs) nm) ⟨nm, [], 0⟩) nm = (Dsk.place (Dsk.names fs) nm : Int) := by
  have hle := Dsk.place_le (Dsk.names fs) nm
  have hn : Dsk.names (fs.insertIdx (Dsk.place (Dsk.names fs) nm) ⟨nm, [], 0⟩) = (Dsk.names fs).insertIdx (Dsk.place (Dsk.names fs) nm) nm := Dsk.names_insert _ _ _
  have hri := hr.ins hm
  have hlt : Dsk.place (Dsk.names fs) nm < ((Dsk.names fs).insertIdx (Dsk.place (Dsk.names fs) nm) nm).length := by rw [List.length_insertIdx_of_le_length hle]; omega
  have hg : ((Dsk.names fs).insertIdx (Dsk.place (Dsk.names fs) nm) nm)[Dsk.place (Dsk.names fs) nm] = nm := List.getElem_insertIdx_self (by omega)
  have hpa := Dsk.place_at hri hlt
  rw [hg] at hpa
  unfold findI
  rw [hn, if_pos, hpa]
  exact (List.mem_insertIdx hle).2 (.inl rfl)
section
variable {w w' : World} {d : Nat} {D : Dsk.Dk} {S : Nat → Prop} {v kv : Value} {set : Bool} {left : Nat} {K : List Int}
set_option maxRecDepth 100000 in
set_option maxHeartbeats 4000000 in
theorem qapp_new (nm s : ByteArray) (h : QAt w d D S v set left kv K) (hd : D.down = false) (hn : Dsk.isNm nm = true) (hm : nm ∉ Dsk.names D.fs) (h16 : ¬ 16 ≤ D.fs.length) (hf : ¬ D.cap < Dsk.total D.fs + s.size) :
    Calls Try.prog 37 #[.pointer (some ⟨d, 0, none⟩), .string nm, .string s] w (AnyRet (DidQ w d S (Dsk.append D nm s))) := by
  have HQ := Lib.hid h
  have HN := Lib.hid (qname_any nm)
  rw [hn] at HN
  have HF := Lib.hid (qfind_at nm h)
  rw [show findI D.fs nm = -1 from if_neg hm] at HF
  have k0 := h.head.cells.1
  have k2 := h.head.cells.2.2.1
  have k3 := h.head.cells.2.2.2.1
  rw [hd] at k2
  have hdl := lt_of_block h.head
  have hcap := h.good.cap1
  have hroom := h.good.room
  have hfew := h.few
  have hle := Dsk.place_le' D.fs nm
  have hadd : Dsk.addTo D.fs nm s = (D.fs.insertIdx (Dsk.place (Dsk.names D.fs) nm) ⟨nm, [], 0⟩).modify (Dsk.place (Dsk.names D.fs) nm) (moreF s) := by unfold Dsk.addTo; rw [if_neg hm]; rfl
  have hnot : ¬ ((nm ∉ Dsk.names D.fs ∧ 16 ≤ D.fs.length) ∨ D.cap < Dsk.total D.fs + s.size) := fun e => e.elim (fun e => h16 e.2) hf
  have HW : Hid (Dsk.append D nm s = Dsk.pass { D with fs := (D.fs.insertIdx (Dsk.place (Dsk.names D.fs) nm) ⟨nm, [], 0⟩).modify (Dsk.place (Dsk.names D.fs) nm) (moreF s) }) := by unfold Hid Dsk.append; rw [hd, if_neg (by simp), if_neg (by rw [hn]; simp), if_neg hnot, hadd]
  have HG := Lib.hid (h.good.append nm s hn hnot D.down D.starts D.fail)
  rw [hadd] at HG
  have HG1 := Lib.hid (good_new h.good hn hm (by omega))
  have HFN := Lib.hid (find_new h.good.rise hm)
  have htot : Dsk.total (D.fs.insertIdx (Dsk.place (Dsk.names D.fs) nm) ⟨nm, [], 0⟩) = Dsk.total D.fs := by rw [Dsk.total_insert _ _ _ hle]; rfl
  have hlen : (D.fs.insertIdx (Dsk.place (Dsk.names D.fs) nm) ⟨nm, [], 0⟩).length = D.fs.length + 1 := List.length_insertIdx_of_le_length hle _
  have HPUT := Lib.hid (fun (u : World) (hu : QAt u d D S v set left kv K) => (show Calls Try.prog 65 #[.pointer (some ⟨d, 0, none⟩), .agg #[.string nm, .string ⟨#[]⟩, .int .i64 0]] u (PutPost u d { D with fs := D.fs.insertIdx (Dsk.place (Dsk.names D.fs) nm) ⟨nm, [], 0⟩ } S set left kv K) from qput_at (w := u) ⟨nm, [], 0⟩ hu hm (by omega) HG1.out))
  obtain ⟨A, c0, hv0, hlc0, hcm0, _⟩ := h.len
  have HS := Lib.hid (fun w1 (hb : Below w.heap.size w w1) => qsize_drew (h.below hb))
  have t1 : decide ((16 : Int) ≤ (D.fs.length : Int)) = false := decide_eq_false (by omega)
  have t2 : decide ((D.cap : Int) - (Dsk.total D.fs : Int) < (s.size : Int)) = false := decide_eq_false (by omega)
  clear h hn hadd hnot hm h16
  generalize Dsk.place (Dsk.names D.fs) nm = p at *
  generalize D.fs.insertIdx p ⟨nm, [], 0⟩ = FS at *
  have hpF : p < FS.length := by omega
  have hL : FS[p].data.length ≤ Dsk.total FS := by
    have h1 := qtotal_take FS hpF
    have h2 : Dsk.total (FS.take (p + 1)) ≤ Dsk.total FS := Dsk.total_sublist (List.take_sublist _ _)
    omega
  have hsz := str_size FS[p].data
  have hsum : FS[p].data.length + s.size ≤ 1048576 := by omega
  clear htot
  generalize Dsk.total D.fs = T at *
  generalize Dsk.total FS = TF at *
  have hcs : IntKind.i64.wrap ((D.cap : Int) - (T : Int)) = (D.cap : Int) - (T : Int) := IntWalk.i64_in _ (by omega)
  subst hv0
  go_enter Try.func37, Try.ntmps37
  go_wp2_with fail
  refine (HN.out _).mono ?_
  rintro e w1 ⟨rfl, rfl⟩
  go_wp2_with fail
  refine HF.out.mono ?_
  rintro e w1 ⟨rfl, hb⟩
  have q0 := (hb.cell (p := ⟨d, 0, none⟩) hdl).trans k0
  have q3 := (hb.cell (p := ⟨d, 3, none⟩) hdl).trans k3
  have HS1 := Lib.hid (HS.out w1 hb)
  go_wp2_with fail
  go_quiet ((go_at_call 19; exact HS1.out _))
  have HP2 := Lib.hid (HPUT.out _ ((HQ.out.below hb).drewN nq))
  have FU1 := Lib.hid ((below_foot hb : Foot S w w1).trans (Foot.drewN S w1 nq) fun _ _ h => h)
  have HQD := HQ.out.din
  clear HS HS1 q0 q3 k0 k2 k3 HPUT HN HF t1 t2
  generalize w1.drewN nq = u0 at *
  go_wp2_with fail
  refine HP2.out.mono ?_
  rintro e u1 ⟨rfl, v, h1, hf1, hnew⟩
  have HQ1 := Lib.hid h1
  have HF2 := Lib.hid (qfind_at nm h1)
  rw [HFN.out] at HF2
  have HFO1 := Lib.hid (FU1.out.trans (hf1.mono (S' := S) fun k _ e => by rw [e]; exact HQD) fun _ _ h => h)
  have HNEW := Lib.hid (fun k (hk : v.ownBlock = some k) => Nat.le_trans FU1.out.size (hnew k hk))
  clear h1 hf1 hnew HP2
  go_wp2_with fail
  refine HF2.out.mono ?_
  rintro e u ⟨rfl, hbu⟩
  have hu := HQ1.out.below hbu
  have FU := Lib.hid (HFO1.out.trans (below_foot hbu : Foot S u1 u) fun _ _ h => h)
  obtain ⟨SP, hSP⟩ : ∃ SP : Nat → Prop, (fun k => S k ∨ v.ownBlock = some k) = SP := ⟨_, rfl⟩
  have HIN : Hid (∀ k, SP k → S k ∨ w.heap.size ≤ k) := Lib.hid (by
    intro k hk
    rw [← hSP] at hk
    rcases hk with hk | hk
    · exact .inl hk
    · exact .inr (HNEW.out k hk))
  rw [hSP] at hu
  clear HQ1 HF2 HFO1 HNEW hSP hbu
  -- the tail: at world u, disk @DA@ (files FS), file p
  obtain ⟨g, c, hv, hlc, hcm, hgd, hgl, b1, b2, b3, bz⟩ := hu.at_ hpF
  subst hv
  unfold maxLen at hcm
  have j3 := hu.head.cells.2.2.2.1
  have z1 := bz (p * 3 + 1)
  have HM := Lib.hid (fun W (hW : Foot (fun _ => False) (u.setCell ⟨g, p * 3 + 1, none⟩ (.string (str FS[p].data ++ s))) W) => hu.more (w' := W) s hpF HG.out hW)
  have hsin : SP g ∧ SP d := ⟨hu.vin g rfl, hu.din⟩
  clear hu b1 b3 bz
  generalize str FS[p].data = t at *
  go_wp2_with fail
  refine wp_region_tail_drawn 17 (by kernel_rfl) (by kernel_rfl) ?_
  simp only [List.take_succ_cons, List.take_zero, List.drop_succ_cons, List.drop_zero]
  repeat (go_big_quiet_step (fail))
  refine wpQuiet_nil ?_
  intro _ hw'
  obtain ⟨mq, hw''⟩ := hw'
  subst hw''
  go_wp2_with fail
  obtain ⟨q, hf3⟩ := HM.out ((u.drewN mq).setCell ⟨g, p * 3 + 1, none⟩ (.string (t ++ s))) (eqv_foot rfl rfl rfl rfl)
  generalize (u.drewN mq).setCell ⟨g, p * 3 + 1, none⟩ (.string (t ++ s)) = w3 at *
  have HFL := Lib.hid (qfails_at q)
  have HC := Lib.hid (qcrash_at q hd q.keep fun k _ hk => q.koff k hk)
  have k6 := q.head.cells.2.2.2.2.2.2.1
  have HF3 := Lib.hid ((hf3.mono (S' := SP) fun k _ e => by rw [e]; exact hsin.1))
  clear q hf3 HM j3 b2 z1
  go_wp2_with fail
  refine HFL.out.mono ?_
  rintro e w4 (⟨hp0, rfl, left', h4, hf4⟩ | ⟨hp1, rfl, rfl⟩)
  · have H4 := Lib.hid h4
    have HF4 := Lib.hid hf4
    clear h4 hf4
    go_wp2_with fail
    go_ret
    refine ⟨0, rfl, ?_⟩
    rw [HW.out]
    refine DidQ.trans_ FU.out HIN.out ⟨hp0.symm, SP, ⟨_, _, _, _, _, H4.out⟩, HF3.out.trans (HF4.out.mono fun k _ e => by rw [e]; exact hsin.2) fun _ _ h => h, fun k hk => .inl hk⟩
  · have HP1 := Lib.hid hp1
    clear hp1
    go_wp2_with fail
    refine HC.out.mono ?_
    rintro e w5 ⟨rfl, h5, hf5⟩
    have H5 := Lib.hid h5
    have HF5 := Lib.hid hf5
    clear h5 hf5
    go_wp2_with fail
    go_ret
    refine ⟨41, rfl, ?_⟩
    rw [HW.out, HP1.out]
    refine DidQ.trans_ FU.out HIN.out ⟨rfl, SP, ⟨_, _, _, _, _, H5.out⟩, HF3.out.trans (HF5.out.mono fun k _ e => by
      rcases e with e | e
      · rw [e]; exact hsin.2
      · injection e with e; rw [← e]; exact hsin.1) fun _ _ h => h, fun k hk => .inl hk⟩
theorem qappend_any (nm s : ByteArray) (h : IsQ w d D S) : Calls Try.prog 37 #[.pointer (some ⟨d, 0, none⟩), .string nm, .string s] w (AnyRet (DidQ w d S (Dsk.append D nm s))) := by
  obtain ⟨v, set, left, kv, K, h⟩ := h
  cases hd : D.down
  · cases hn : Dsk.isNm nm
    · exact qapp_not nm s h hd hn
    · by_cases hf : D.cap < Dsk.total D.fs + s.size
      · by_cases hm : nm ∈ Dsk.names D.fs
        · exact qapp_full1 nm s h hd hn hm hf
        · by_cases h16 : 16 ≤ D.fs.length
          · exact qapp_many nm s h hd hn hm h16
          · exact qapp_full2 nm s h hd hn hm h16 hf
      · by_cases hm : nm ∈ Dsk.names D.fs
        · exact qapp_there nm s h hd hn hm hf
        · by_cases h16 : 16 ≤ D.fs.length
          · exact qapp_many nm s h hd hn hm h16
          · exact qapp_new nm s h hd hn hm h16 hf
  · exact qapp_down nm s h hd
end
end Go.Proofs.Ytceldekbkffhpaa
