/-
  The contracts of Find, Size, there and fails of the document's disk.
-/
import Derived.Test.YtceldekbkffhpaaQBase
import Derived.WalkSmall
namespace Go.Proofs.Ytceldekbkffhpaa
open Go.RowKit
section
variable {w w' : World} {d : Nat} {D : Dsk.Dk} {S : Nat → Prop} {v kv : Value} {set : Bool} {left : Nat} {K : List Int}
/-- The place of a name, or none. -/
def findI (fs : List Dsk.Fl) (nm : ByteArray) : Int := if nm ∈ Dsk.names fs then (Dsk.place (Dsk.names fs) nm : Int) else -1
theorem qsame_drewN {w w' : World} (h : Below w.heap.size w w') (n : Nat) : Below w.heap.size w (w'.drewN n) := ⟨h.os, h.tape, h.output, h.size, h.block⟩
theorem qnames_at (fs : List Dsk.Fl) {i : Nat} (hi : i < fs.length) : (Dsk.names fs)[i]'(by rw [Dsk.names_len]; exact hi) = fs[i].name := by simp [Dsk.names]
set_option maxRecDepth 100000 in
set_option maxHeartbeats 1000000 in
theorem qfind_at (nm : ByteArray) (h : QAt w d D S v set left kv K) :
    Calls Try.prog 64 #[.pointer (some ⟨d, 0, none⟩), .string nm] w fun e w' => e = .returned (.int .i64 (findI D.fs nm)) ∧ Below w.heap.size w w' := by
  obtain ⟨k0, k1, k2, k3, k4, k5, k6, kz⟩ := h.head.cells
  have hdl := lt_of_block h.head
  have hfew := h.few
  obtain ⟨A, c, hv, hlc, hcm, _⟩ := h.len
  have HF := Lib.hid (fun i (hi : i < D.fs.length) => h.at_ hi)
  have HR := Lib.hid h.good.rise
  subst hv
  unfold maxLen at hcm
  clear h k0 k1 k2 k4 k5 k6 kz
  go_enter Try.func64, Try.ntmps64
  go_wp2_with fail
  go_loopw [5] (fun i wr => ∃ k : Nat, k ≤ D.fs.length ∧ i = .int .i64 k ∧ Hid (∀ j (hj : j < D.fs.length), j < k → D.fs[j].name ≠ nm) ∧ Below w.heap.size w wr) (fun i _ => D.fs.length - (intOf i).toNat)
  case atStart => exact ⟨0, Nat.zero_le _, rfl, Lib.hid (fun j _ hj => absurd hj (Nat.not_lt_zero _)), Below.refl _ _⟩
  case round =>
    obtain ⟨k, hk, rfl, HN, hb⟩ := hrel
    have q3 := (hb.cell (p := ⟨d, 3, none⟩) hdl).trans k3
    by_cases hlt : k < D.fs.length
    · obtain ⟨g, c', hv, _, _, _, hgl, c1, _, _, _⟩ := HF.out k hlt
      injection hv with hv1 _ hv2
      subst hv1; subst hv2
      have d1 := (hb.cell (p := ⟨g, k * 3, none⟩) hgl).trans c1
      have HX := Lib.hid (fun (hne : D.fs[k].name ≠ nm) => (fun j hj hjk => by
        rcases Nat.lt_or_ge j k with h' | h'
        · exact HN.out j hj h'
        · obtain rfl : j = k := by omega
          exact hne : ∀ j (hj : j < D.fs.length), j < k + 1 → D.fs[j].name ≠ nm))
      have HY := Lib.hid (fun (he : D.fs[k].name = nm) => (show findI D.fs nm = (k : Int) by
        have h1 := Dsk.place_at HR.out (i := k) (by rw [Dsk.names_len]; exact hlt)
        rw [qnames_at D.fs hlt, he] at h1
        have h2 : nm ∈ Dsk.names D.fs := by rw [← he]; exact List.mem_map_of_mem (List.getElem_mem hlt)
        unfold findI
        rw [if_pos h2, h1]))
      clear c1
      generalize D.fs[k].name = a at *
      by_cases hab : a = nm
      · subst hab
        have HY' := Lib.hid (HY.out rfl)
        go_wp2_with fail
        go_ret
        exact ⟨by rw [HY'.out]; rfl, hb⟩
      · have t1 : (a.toList == nm.toList) = false := by rw [beq_eq_false_iff_ne]; exact fun e => hab (Dsk.tl_inj e)
        go_wp2_with fail
        go_roundw
        case rel => exact ⟨k + 1, by omega, by go_num, Lib.hid (HX.out hab), hb⟩
        case measure => simp [intOf]; omega
    · obtain rfl : k = D.fs.length := by omega
      have HY : Hid (findI D.fs nm = -1) := by
        unfold Hid findI
        rw [if_neg]
        intro hm
        obtain ⟨f, hf, rfl⟩ := List.mem_map.1 hm
        obtain ⟨j, hj, rfl⟩ := List.getElem_of_mem hf
        exact HN.out j hj hj rfl
      go_wp2_with fail
      go_ret
      exact ⟨by rw [HY.out]; rfl, hb⟩
theorem qtotal_take (fs : List Dsk.Fl) {k : Nat} (hk : k < fs.length) : Dsk.total (fs.take (k + 1)) = Dsk.total (fs.take k) + fs[k].data.length := by
  rw [List.take_succ_eq_append_getElem hk, Dsk.total_append, Dsk.total_cons, Dsk.total_nil]; omega
set_option maxRecDepth 100000 in
set_option maxHeartbeats 1000000 in
theorem qsize_at (h : QAt w d D S v set left kv K) :
    Calls Try.prog 19 #[.pointer (some ⟨d, 0, none⟩)] w fun e w' => e = .returned (.int .i64 (Dsk.total D.fs : Int)) ∧ w = w' := by
  obtain ⟨k0, k1, k2, k3, k4, k5, k6, kz⟩ := h.head.cells
  have hfew := h.few
  obtain ⟨A, c, hv, hlc, hcm, _⟩ := h.len
  have HF := Lib.hid (fun i (hi : i < D.fs.length) => h.at_ hi)
  have hroom := h.good.room
  have hcap := h.good.cap1
  subst hv
  unfold maxLen at hcm
  clear h k0 k1 k2 k4 k5 k6 kz
  go_enter Try.func19, Try.ntmps19
  go_wp2_with fail
  go_loopw [3, 4] (fun n i wr => ∃ k s : Nat, k ≤ D.fs.length ∧ i = .int .i64 k ∧ n = .int .i64 s ∧ s ≤ 1048576 ∧ Hid (s = Dsk.total (D.fs.take k)) ∧ w = wr) (fun _ i _ => D.fs.length - (intOf i).toNat)
  case atStart => exact ⟨0, 0, Nat.zero_le _, rfl, rfl, Nat.zero_le _, Lib.hid (by rw [List.take_zero]; rfl), rfl⟩
  case round =>
    obtain ⟨k, s, hk, rfl, rfl, hs, HS, rfl⟩ := hrel
    by_cases hlt : k < D.fs.length
    · obtain ⟨g, c', hv, _, _, _, _, _, c1, _, _⟩ := HF.out k hlt
      injection hv with hv1 _ hv2
      subst hv1; subst hv2
      have d1 := c1
      have ht := qtotal_take D.fs hlt
      have hle : Dsk.total (D.fs.take (k + 1)) ≤ Dsk.total D.fs := Dsk.total_sublist (List.take_sublist _ _)
      rw [← HS.out] at ht
      have hsz := str_size D.fs[k].data
      have hs2 : s + D.fs[k].data.length ≤ 1048576 := by omega
      have HT := Lib.hid ht
      clear c1 ht hle
      generalize D.fs[k].data.length = n at *
      generalize str D.fs[k].data = t at *
      go_wp2_with fail
      go_roundw
      case rel => exact ⟨k + 1, s + n, by omega, by go_num, by go_num, hs2, Lib.hid HT.out.symm, trivial⟩
      case measure => simp [intOf]; omega
    · obtain rfl : k = D.fs.length := by omega
      rw [List.take_length] at HS
      go_wp2_with fail
      go_ret
      exact ⟨by rw [← HS.out]; rfl, rfl⟩
end
end Go.Proofs.Ytceldekbkffhpaa
