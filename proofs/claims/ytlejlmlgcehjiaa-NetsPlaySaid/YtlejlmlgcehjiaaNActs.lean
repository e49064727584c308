/-
  Acts; great; spoil.
-/
import Derived.Test.YtlejlmlgcehjiaaNOn
import Derived.Lib.MinMax
import Derived.Deep.LoopGhost
namespace Go.Proofs.Ytlejlmlgcehjiaa
open Go.RowKit
structure AV where
  k : Int
  h : Net.Hd
  ea : Option Addr
  ec : Nat
  es : List Net.Ent
  i : Int
def AV.v (x : AV) : Value := .slice x.ea x.es.length x.ec
def AV.ml (x : AV) : Net.Ml := ⟨x.h, x.es⟩
def acells (x : AV) : List Value := .int .u8 x.k :: (mcells x.h x.v ++ [.int .i64 x.i])
/-- A slice of acts that reads so. -/
def ARead (w : World) (v : Value) (l : List AV) : Prop := ∃ A c, v = .slice A l.length c ∧ l.length ≤ c ∧ c ≤ maxLen ∧ (0 < l.length → ∃ b o, A = some ⟨b, o, none⟩ ∧ b < w.heap.size ∧ ∀ i (h : i < l.length), ∀ j, j < 20 → w.cell? ⟨b, o + i * 20 + j, none⟩ = (acells l[i])[j]?) ∧ ∀ x ∈ l, Ents w x.v x.es
theorem ARead.below {w w' : World} {v : Value} {l : List AV} (h : ARead w v l) (hb : Below w.heap.size w w') : ARead w' v l := by
  obtain ⟨A, c, rfl, h1, h2, h3, h4⟩ := h
  refine ⟨A, c, rfl, h1, h2, fun h0 => ?_, fun m hm => (h4 m hm).below hb⟩
  obtain ⟨b, o, rfl, hl, hc⟩ := h3 h0
  exact ⟨b, o, rfl, Nat.lt_of_lt_of_le hl hb.size, fun i hi j hj => (hb.cell (p := ⟨b, o + i * 20 + j, none⟩) hl).trans (hc i hi j hj)⟩
def Small (l : List AV) : Prop := (∀ x ∈ l, x.es.length ≤ 4000) ∧ l.length ≤ 800
def GreatPost (w : World) (l : List AV) (e : Ending) (w' : World) : Prop := ∃ b, e = .returned (.bool b) ∧ (b = false → Small l) ∧ Below w.heap.size w w'
set_option maxRecDepth 100000 in
set_option maxHeartbeats 1000000 in
theorem great_any {v : Value} {l : List AV} {w : World} (h : ARead w v l) : Calls Try.prog 9 #[v] w (GreatPost w l) := by
  obtain ⟨A, c, rfl, hc1, hc2, hA, hE⟩ := h
  have HA := Lib.hid hA
  have HEL := Lib.hid (fun x hx => (hE x hx).len)
  clear hA hE
  unfold maxLen at hc2
  go_enter Try.func9, Try.ntmps9
  go_wp2_with fail
  go_loopg [2, 3, 4] l.length (fun kx s2 s3 s4 wr => ∃ k s : Nat, k ≤ l.length ∧ s4 = .int .i64 (k : Int) ∧ l.length - k ≤ kx ∧ s2 = .bool false ∧ s3 = .int .i64 (s : Int) ∧ s ≤ 4000 ∧ Hid (∀ x ∈ l.take k, x.es.length ≤ 4000) ∧ Below w.heap.size w wr)
  case atStart => exact ⟨0, 0, Nat.zero_le _, rfl, by omega, rfl, rfl, Nat.zero_le _, fun x hx => by simp at hx, Below.refl _ _⟩
  case round =>
    obtain ⟨k, s, hk, rfl, hkx, rfl, rfl, hs, hl, hb⟩ := hrel
    by_cases hlt : k < l.length
    · obtain ⟨b, o, rfl, hbl, hcells⟩ := HA.out (by omega)
      have c0 := hcells k hlt 10 (by omega)
      have HLT : Hid (∀ y, y ∈ l.take (k + 1) → y ∈ l.take k ∨ y = l[k]) := fun y hy => by
        rw [List.take_succ_eq_append_getElem hlt] at hy
        rcases List.mem_append.1 hy with hy | hy
        · exact .inl hy
        · exact .inr (by simpa using hy)
      have hlen := HEL.out _ (List.getElem_mem hlt)
      clear hcells
      generalize l[k] = x at *
      obtain ⟨xk, xh, ea, ec, es, xi⟩ := x
      have c0 : w.cell? ⟨b, o + k * 20 + 10, none⟩ = some (.slice ea es.length ec) := c0.trans rfl
      have c0 := (hb.cell (p := ⟨b, o + k * 20 + 10, none⟩) hbl).trans c0
      have hel : es.length ≤ maxLen := by
        obtain ⟨A, c, e, h1, h2, _⟩ := hlen
        exact Nat.le_trans h1 h2
      unfold maxLen at hel
      have hlk : (k : Int) < (l.length : Int) := by omega
      clear hlen HEL HA
      by_cases g3 : es.length ≤ 100000
      · have m1 : min (es.length : Int) 100000 = (es.length : Int) := by omega
        by_cases g2 : s + 1 + es.length ≤ 4000
        · have t1 : decide ((4000 : Int) < (s : Int) + 1 + (es.length : Int)) = false := decide_eq_false (by omega)
          go_wp2_with fail
          go_roundg (l.length - (k + 1))
          case measure => omega
          case rel =>
            refine ⟨k + 1, s + 1 + es.length, by omega, by go_num, by omega, rfl, by go_num, g2, fun y hy => ?_, hb⟩
            rcases HLT.out y hy with hy | rfl
            · exact hl.out y hy
            · show es.length ≤ 4000
              omega
        · have t1 : decide ((4000 : Int) < (s : Int) + 1 + (es.length : Int)) = true := decide_eq_true (by omega)
          go_wp2_with fail
          go_ret
          exact ⟨true, rfl, (fun h => by cases h), hb⟩
      · have m1 : min (es.length : Int) 100000 = 100000 := by omega
        have t1 : decide ((4000 : Int) < (s : Int) + 1 + 100000) = true := decide_eq_true (by omega)
        go_wp2_with fail
        go_ret
        exact ⟨true, rfl, (fun h => by cases h), hb⟩
    · obtain rfl : k = l.length := by omega
      rw [List.take_length] at hl
      have hlk : ¬ ((l.length : Int) < (l.length : Int)) := by omega
      by_cases g : l.length ≤ 800
      · have t : decide ((800 : Int) < (l.length : Int)) = false := decide_eq_false (by omega)
        go_wp2
        go_ret
        exact ⟨false, rfl, fun _ => ⟨hl.out, g⟩, hb⟩
      · have t : decide ((800 : Int) < (l.length : Int)) = true := decide_eq_true (by omega)
        go_wp2
        go_ret
        exact ⟨true, rfl, (fun h => by cases h), hb⟩
theorem Try.map_entry : (Try.prog.info? 40).map (·.size) = some 6 := by kernel_rfl
/-- An entry stored at a place of a row. -/
theorem store_entry_at {W : World} {g o : Nat} {cur : Array Value} {t : TypeId} (e : Net.Ent) (hg : W.heap[g]? = some (.cells cur t (0, 0))) (ho : o + 6 ≤ cur.size) :
    (storeVar 40 ⟨g, o, none⟩ (.agg (ecells e).toArray)).run Try.prog W = .ok () (W.setRow g (cur.toList.take o ++ ecells e ++ cur.toList.drop (o + 6)).toArray) := by
  have hst := run_storeCells_at (P := Try.prog) g o t (ecells e) 0 cur W hg (by rw [Nat.add_zero]; exact ho) (fun v hv => by
    simp only [ecells, List.mem_cons, List.not_mem_nil, or_false] at hv
    rcases hv with rfl | rfl | rfl | rfl | rfl | rfl <;> rfl)
  obtain ⟨i0, hi, hz0, hz1, hz2⟩ := info_parts Try.info_entry
  have hl : (ecells e).length = 6 := rfl
  simp only [Nat.add_zero, hl] at hst
  simp [storeVar, sizeOf, typeInfo, hi, hz1, Value.cells, hl, hst]
/-- What spoil leaves: all but the message's own entries as it was. -/
def SpoilPost (v : Value) (es : List Net.Ent) (w : World) (e : Ending) (w' : World) : Prop := e = .returned (.tuple #[]) ∧ Hid (Foot (fun k => 0 < es.length ∧ v.ownBlock = some k) w w')
set_option maxRecDepth 100000 in
set_option maxHeartbeats 1000000 in
theorem spoil_any {w : World} (hd : Net.Hd) {v : Value} {es : List Net.Ent} (h : EOwn w 0 v es) : Calls Try.prog 16 #[.agg (mcells hd v).toArray] w (SpoilPost v es w) := by
  have hlen := h.ents.len
  obtain ⟨W, hW⟩ : ∃ W, W = w.alloc (.cells (mcells hd v).toArray 36) := ⟨_, rfl⟩
  have hb0 : Below w.heap.size w W := by rw [hW]; exact (Below.refl _ _).alloc (Nat.le_refl _) _
  have n1 : W.heap[w.heap.size]? = some (.cells (mcells hd v).toArray 36 (0, 0)) := by rw [hW]; exact heap_alloc_new w _
  obtain ⟨A, c, hv, h1, h2, h3⟩ := hlen
  have HW := Lib.hid hW.symm
  have HB0 := Lib.hid hb0
  by_cases h0 : 0 < es.length
  · have h' := h
    rcases h.2 with ⟨_, hz⟩ | ⟨g, cap, cur, hv2, hb, hg, hnc, hcm, hcs, ht⟩
    · omega
    rw [hv] at hv2
    injection hv2 with e1 _ e3
    subst e1 e3
    have hgl := lt_of_block hg
    have hg1 := (hb0.block g hgl).trans hg
    subst hv
    have g9 : (mcells hd (.slice (some ⟨g, 0, none⟩) es.length c))[9]? = some (.slice (some ⟨g, 0, none⟩) es.length c) := rfl
    have HN1 := Lib.hid n1
    have HG1 := Lib.hid hg1
    clear h h' hW hb0 n1 h3 hg hg1 ht
    unfold maxLen at h2 hcm
    go_enter Try.func16, Try.ntmps16
    go_wp2_with (rw [HW.out])
    go_loopg [2] es.length (fun kx s2 wr => ∃ k : Nat, k ≤ es.length ∧ s2 = .int .i64 (k : Int) ∧ es.length - k ≤ kx ∧ Hid (Foot (fun k => k = g) W wr) ∧ Hid (∃ cur' : Array Value, wr.heap[g]? = some (.cells cur' 40 (0, 0)) ∧ cur'.size = c * 6))
    case atStart => exact ⟨0, Nat.zero_le _, rfl, by omega, Foot.refl _ _, cur, HG1.out, hcs⟩
    case round =>
      obtain ⟨k, hk, rfl, hkx, hf, hc⟩ := hrel
      have x9 : wr.cell? ⟨w.heap.size, 9, none⟩ = some (.slice (some ⟨g, 0, none⟩) es.length c) := by rw [mail_cells (hf.out.kept HN1.out (fun e => by omega)) 9]; exact g9
      by_cases hlt : k < es.length
      · obtain ⟨cur', hg', hs'⟩ := hc.out
        have hst := store_entry_at (W := wr) (o := k * 6) ⟨-9, 0, 0, 0, 0, 0⟩ hg' (by rw [hs']; omega)
        obtain ⟨R, hR⟩ : ∃ R, R = (cur'.toList.take (k * 6) ++ ecells ⟨-9, 0, 0, 0, 0, 0⟩ ++ cur'.toList.drop (k * 6 + 6)).toArray := ⟨_, rfl⟩
        rw [← hR] at hst
        have hl6 : (ecells ⟨-9, 0, 0, 0, 0, 0⟩).length = 6 := rfl
        have hRs : R.size = c * 6 := by rw [hR]; simp only [List.size_toArray, List.length_append, List.length_take, List.length_drop, Array.length_toList, hl6, hs']; omega
        have HF2 : Hid (Foot (fun k => k = g) W (wr.setRow g R)) := hf.out.trans (Foot.row (fun k => k = g) wr g R rfl) fun _ _ e => e
        have HC2 : Hid (∃ cur' : Array Value, (wr.setRow g R).heap[g]? = some (.cells cur' 40 (0, 0)) ∧ cur'.size = c * 6) := ⟨R, setRow_heap wr g _ _ _ _ hg', hRs⟩
        have HST := Lib.hid hst
        have hii : (k : Int) < (es.length : Int) := by omega
        generalize hWn : wr.setRow g R = Wn at *
        clear hst hR hRs hg' hs' hc hf hWn
        go_wp2_with (refine wpList_store_run rfl 40 _ _ rfl ⟨g, k * 6, none⟩ (.agg (ecells ⟨-9, 0, 0, 0, 0, 0⟩).toArray) rfl rfl HST.out ?_)
        go_roundg (es.length - (k + 1))
        case measure => omega
        case rel => exact ⟨k + 1, by omega, by go_num, by omega, HF2, HC2⟩
      · obtain rfl : k = es.length := by omega
        have hlk : ¬ ((es.length : Int) < (es.length : Int)) := by omega
        go_wp2_with fail
        go_end0
        exact ⟨rfl, Lib.hid ((below_foot HB0.out : Foot (fun k => 0 < es.length ∧ some g = some k) w W).trans (hf.out.mono fun k _ e => ⟨h0, by rw [e]⟩) fun _ _ e => e)⟩
  · obtain rfl : es = [] := List.eq_nil_of_length_eq_zero (by omega)
    subst hv
    have x9 : W.cell? ⟨w.heap.size, 9, none⟩ = some (.slice A 0 c) := by rw [mail_cells n1 9]; rfl
    have g9 : (mcells hd (.slice A 0 c))[9]? = some (.slice A 0 c) := rfl
    clear h hW hb0 n1 h3
    simp only [List.length_nil] at *
    go_enter Try.func16, Try.ntmps16
    go_wp2_with (rw [HW.out])
    go_loopg [2] 0 (fun _ s2 wr => s2 = .int .i64 0 ∧ wr = W)
    case atStart => exact ⟨rfl, rfl⟩
    case round =>
      obtain ⟨rfl, hw⟩ := hrel
      subst hw
      go_wp2_with fail
      go_end0
      exact ⟨rfl, Lib.hid (below_foot HB0.out)⟩
end Go.Proofs.Ytlejlmlgcehjiaa
