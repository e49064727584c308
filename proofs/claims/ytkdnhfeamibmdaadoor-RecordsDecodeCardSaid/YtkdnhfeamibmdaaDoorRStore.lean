/-
  Elements of a row of one's own written over; and what Decode answers, both of one form.
-/
import Derived.Test.YtkdnhfeamibmdaaDoorRTwin
import Derived.Test.YtkdnhfeamibmdaaDoorRrDec
import Derived.Deep.MidRow
namespace Go.Proofs.YtkdnhfeamibmdaaDoor
open Go.RowKit Go.Sort
theorem setCells_foot (b : Nat) : ∀ (vs : List Value) (o : Nat) (w : World), Foot (fun j => j = b) w (w.setCells b o vs)
  | [], _, w => by unfold World.setCells; exact Foot.refl _ _
  | v :: r, o, w => by
    unfold World.setCells
    exact (Foot.set (fun j => j = b) w ⟨b, o, none⟩ v rfl).trans (setCells_foot b r (o + 1) _) fun _ _ h => h
/-- A row of the call's own, whatever stands in it. -/
def RowT (w : World) (base : Nat) (t : TypeId) (size : Nat) (A : Option Addr) (n c : Nat) : Prop := ∃ xs, w.ownsRow base t size (.slice A n c) n xs
theorem RowT.stores {base n c size g : Nat} {t : TypeId} : ∀ (vs : List Value) (o : Nat) (w : World), RowT w base t size (some ⟨g, 0, none⟩) n c → RowT (w.setCells g o vs) base t size (some ⟨g, 0, none⟩) n c
  | [], _, _, h => h
  | v :: r, o, w, h => by
    obtain ⟨xs, ho⟩ := h
    unfold World.setCells
    exact RowT.stores r (o + 1) _ ⟨_, (World.ownsRow.stored ho o v).1⟩
theorem RowT.at_ {w : World} {base n c size k : Nat} {t : TypeId} {A : Option Addr} (h : RowT w base t size A n c) (hk : k < n) :
    ∃ g, A = some ⟨g, 0, none⟩ ∧ base ≤ g ∧ g < w.heap.size ∧ w.there g (k * size) size := by
  obtain ⟨xs, ho⟩ := h
  have ho' := ho
  rcases ho.2 with ⟨h1, h2⟩ | ⟨g, cap, cur, h1, h2, h3, _⟩
  · omega
  · injection h1 with h1 _ h3'
    subst h1 h3'
    refine ⟨g, rfl, h2, heap_lt h3, fun j hj => ?_⟩
    have hl := ho.1
    have hx : k * size + j < n * size := by
      have := Nat.mul_le_mul_right size (show k + 1 ≤ n from hk)
      rw [Nat.succ_mul] at this
      omega
    have hc := World.ownsRow.cellAt ho' (k * size + j) hx
    rw [List.getElem?_eq_getElem (by omega)] at hc
    exact ⟨by rw [hc]; rfl, World.ownsRow.frozenAt ho' _⟩
theorem rows_ne {w : World} {b1 b2 s1 s2 n1 n2 : Nat} {t1 t2 : TypeId} {v1 v2 : Value} {x1 x2 : List Value} (h1 : w.ownsRow b1 t1 s1 v1 n1 x1) (h2 : w.ownsRow b2 t2 s2 v2 n2 x2) (hne : t1 ≠ t2) : ∀ j, v1.ownBlock = some j → v2.ownBlock ≠ some j := by
  intro j e1 e2
  rcases h1.2 with ⟨rfl, _⟩ | ⟨g, cap, cur, rfl, _, hg, _⟩
  · cases e1
  rcases h2.2 with ⟨rfl, _⟩ | ⟨g', cap', cur', rfl, _, hg', _⟩
  · cases e2
  simp only [Value.ownBlock, Option.some.injEq] at e1 e2
  subst e1 e2
  rw [hg] at hg'
  simp only [Option.some.injEq, Obj.cells.injEq] at hg'
  exact hne hg'.2.1
/-- What Decode answers: a record, and whether. -/
def resR (l : List UInt8) : Rec × Int := match decR? l with
  | .none => (Rec.none, 30)
  | some r => (r, 0)
theorem resR_len (l : List UInt8) : (resR l).1.es.length ≤ 64 ∧ (resR l).1.fd.length ≤ 256 := by
  unfold resR
  rcases hd : decR? l with _ | r
  · exact ⟨by simp [Rec.none], by simp [Rec.none]⟩
  · have h := Rec.bd (decR_iff.1 hd).1
    exact ⟨h.1, h.2.1⟩
def ResPost (l : List UInt8) (w : World) (e : Ending) (w' : World) : Prop :=
  Below w.heap.size w w' ∧ ∃ (A A' : Option Addr) (c c' : Nat), e = .returned (.tuple #[(resR l).1.v (.slice A (resR l).1.es.length c) (.slice A' (resR l).1.fd.length c'), .int .i64 (resR l).2]) ∧
    OwnE w' w.heap.size (.slice A (resR l).1.es.length c) (resR l).1.es ∧ OwnF w' w.heap.size (.slice A' (resR l).1.fd.length c') (resR l).1.fd
theorem res_of {l : List UInt8} {w : World} {e : Ending} {w' : World} (hb : Below w.heap.size w w') (h : (decR? l = none ∧ e = .returned (.tuple #[recV0, .int .i64 30])) ∨
    ∃ (r : Rec) (A A' : Option Addr) (c c' : Nat), decR? l = some r ∧ e = .returned (.tuple #[r.v (.slice A r.es.length c) (.slice A' r.fd.length c'), .int .i64 0]) ∧
      OwnE w' w.heap.size (.slice A r.es.length c) r.es ∧ OwnF w' w.heap.size (.slice A' r.fd.length c') r.fd) : ResPost l w e w' := by
  refine ⟨hb, ?_⟩
  rcases h with ⟨hd, rfl⟩ | ⟨r, A, A', c, c', hd, rfl, hE, hF⟩
  · unfold resR
    rw [hd]
    exact ⟨none, none, 0, 0, rfl, World.ownsRow_nil _ _ _ _, World.ownsRow_nil _ _ _ _⟩
  · unfold resR
    rw [hd]
    exact ⟨A, A', c, c', rfl, hE, hF⟩
theorem recDecode_res {s : ByteArray} (hs : s.size ≤ 1000000) {w : World} (hA : AskR w) : Calls Tryd.prog 14 #[.string s] w (ResPost (bytesOf s) w) :=
  (recDecode_any hs hA).mono fun _ _ h => res_of h.1 h.2
theorem rrDec_res {s : ByteArray} (hs : s.size ≤ 1000000) (w : World) : Calls Tryd.prog 15 #[.string s] w (ResPost (bytesOf s) w) :=
  (rrDec_any hs w).mono fun _ _ h => res_of h.1 h.2
end Go.Proofs.YtkdnhfeamibmdaaDoor
