/-
  The contract of ask: what is asked is a closure of whatever kind.
-/
import Derived.Test.YtceldekbkffhpaaDPass
import Derived.Shelf.Abstract
namespace Go.Proofs.Ytceldekbkffhpaa
open Go.RowKit
def AnyRet (Q : Int → World → Prop) (e : Ending) (w' : World) : Prop := ∃ r : Int, e = .returned (.int .i64 r) ∧ Q r w'
section
variable {d cap : Nat} {v : Value} {down : Bool} {starts : Nat} {left : Int} {fv : Value} {fs : List MF} {w : World}
set_option maxRecDepth 100000 in
theorem ask_none (nm : ByteArray) (cl : Value) (h : NoneAt w v) : Calls Try.prog 38 #[v, .string nm, cl] w fun e w' => e = .returned (.int .i64 1) ∧ w = w' := by
  have HR := Lib.hid (ready_none v w h)
  clear h
  go_enter Try.func38, Try.ntmps38
  go_wp2_with fail
  refine HR.out.mono ?_
  rintro e w' ⟨rfl, rfl⟩
  go_wp2_with fail
  go_ret
  exact ⟨rfl, rfl⟩
set_option maxRecDepth 100000 in
theorem ask_down (nm : ByteArray) (cl : Value) (hh : Head w d cap v true starts left fv) (h0 : 0 < cap) : Calls Try.prog 38 #[.pointer (some ⟨d, 0, none⟩), .string nm, cl] w fun e w' => e = .returned (.int .i64 41) ∧ w = w' := by
  have HR := Lib.hid (ready_any w hh h0)
  clear hh
  go_enter Try.func38, Try.ntmps38
  go_wp2_with fail
  refine HR.out.mono ?_
  rintro e w' ⟨rfl, rfl⟩
  have e1 : readyR true = 41 := rfl
  go_wp2_with fail
  go_ret
  exact ⟨rfl, rfl⟩
set_option maxRecDepth 100000 in
theorem ask_not (nm : ByteArray) (cl : Value) (hh : Head w d cap v false starts left fv) (h0 : 0 < cap) (h : Files w d v fs) (hr : Dsk.Rise (MF.names fs)) (hl : fs.length ≤ 1000) (hn : nm ∉ MF.names fs) :
    Calls Try.prog 38 #[.pointer (some ⟨d, 0, none⟩), .string nm, cl] w fun e w' => e = .returned (.int .i64 4) ∧ Below w.heap.size w w' := by
  have HR := Lib.hid (ready_any w hh h0)
  have HF := Lib.hid (find_any nm w hh h hr hl)
  rw [decide_eq_false hn] at HF
  generalize Dsk.place (MF.names fs) nm = p at *
  clear hh h hr hn
  go_enter Try.func38, Try.ntmps38
  go_wp2_with fail
  refine HR.out.mono ?_
  rintro e w' ⟨rfl, rfl⟩
  have e1 : readyR false = 0 := rfl
  go_wp2_with fail
  refine HF.out.mono ?_
  rintro e w' ⟨rfl, hb⟩
  go_wp2_with fail
  go_ret
  exact ⟨rfl, hb⟩
set_option maxRecDepth 100000 in
theorem ask_found (nm : ByteArray) (g : Nat) (cb : Array Value) (Q : Int → World → Prop) (eg : ∀ args w, (callFunc g args).run Try.prog w = .ok (.enter g args) w) {gr c : Nat} (hh : Head w d cap (.slice (some ⟨gr, 0, none⟩) fs.length c) false starts left fv) (h0 : 0 < cap)
    (h : Files w d (.slice (some ⟨gr, 0, none⟩) fs.length c) fs) (hr : Dsk.Rise (MF.names fs)) (hl : fs.length ≤ 1000) (hn : nm ∈ MF.names fs) (hcl : ∀ w1, Below w.heap.size w w1 → Calls Try.prog g (#[.pointer (some ⟨gr, Dsk.place (MF.names fs) nm * 3, none⟩)] ++ cb) w1 (AnyRet Q)) :
    Calls Try.prog 38 #[.pointer (some ⟨d, 0, none⟩), .string nm, .func (.func g) #[] cb] w (AnyRet Q) := by
  have HR := Lib.hid (ready_any w hh h0)
  have HF := Lib.hid (find_any nm w hh h hr hl)
  rw [decide_eq_true hn] at HF
  obtain ⟨hp, _⟩ := Dsk.place_mem hr hn
  rw [MF.names_len] at hp
  generalize Dsk.place (MF.names fs) nm = p at *
  have HH := Lib.hid hh
  have HC := Lib.hid hcl
  clear hh h hr hn hcl
  go_enter Try.func38, Try.ntmps38
  go_wp2_with fail
  refine HR.out.mono ?_
  rintro e w' ⟨rfl, rfl⟩
  have e1 : readyR false = 0 := rfl
  go_wp2_with fail
  refine HF.out.mono ?_
  rintro e w1 ⟨rfl, hb⟩
  obtain ⟨k0, k1, k2, k3, k4, k5, hz⟩ := (HH.out.foot (below_foot (S := fun _ => False) hb) fun e => e).cells
  have HC1 := Lib.hid (HC.out w1 hb)
  clear k0 k2 k3 k4 k5 hz
  go_wp2_with (go_at_fn g; refine HC1.out.mono ?_; rintro e w' ⟨r, rfl, hq⟩)
  have HQ := Lib.hid hq
  clear hq
  go_wp2_with fail
  go_ret
  exact ⟨r, rfl, HQ.out⟩
end
end Go.Proofs.Ytceldekbkffhpaa
