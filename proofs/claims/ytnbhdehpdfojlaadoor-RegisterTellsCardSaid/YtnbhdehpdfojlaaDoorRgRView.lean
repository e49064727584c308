/-
  Apply of the document, of all kinds.
-/
import Derived.Test.YtnbhdehpdfojlaaDoorRgRVa
import Derived.Test.YtnbhdehpdfojlaaDoorRgRVb
import Derived.Test.YtnbhdehpdfojlaaDoorRgRVc
namespace Go.Proofs.YtnbhdehpdfojlaaDoor
open Go.RowKit Go.Sort
theorem rapply_2 (p v : Int) (m : Nat) (st ep vi fr le : Int) (es xs : List En) (A XA FA : Option Addr) (c xc fn fc : Nat) (w : World) (ha : EsB w.heap.size w (.slice A es.length c) es) (hx : EsB w.heap.size w (.slice XA xs.length xc) xs) (hmay : (Re.mk p v es m).may = true) (hlx : xs.length ≤ 100000) (Q : Re × Bool) (hAQ0 : Hid (appQ ⟨p, v, es, m⟩ ⟨2, ep, vi, fr, le, xs⟩ = Q)) (f : Nat) (hf : Hid (frmR ⟨p, v, es, m⟩ ep = f)) :
    Calls Tryd.prog 12 #[.agg #[.int .i64 p, .int .i64 v, .slice A es.length c, .int .i64 (m : Int)], .agg #[.int .i64 2, .int .i64 st, .int .i64 ep, .int .i64 vi, .int .i64 fr, .int .i64 le, .slice XA xs.length xc, .slice FA fn fc]] w (BehPost Q w) := by
  by_cases hno : ep < 1 ∨ ep < p ∨ 1048576 < ep ∨ ¬ fr = (f : Int)
  · exact rapply_2a p v m st ep vi fr le es xs A XA FA c xc fn fc w ha hx hmay hlx Q hAQ0 f hf (Lib.hid hno)
  by_cases hlg : logB (es.take f ++ xs) ep = false ∨ ((es.take f ++ xs).length : Int) < (m : Int)
  · exact rapply_2b p v m st ep vi fr le es xs A XA FA c xc fn fc w ha hx hmay hlx Q hAQ0 f hf (Lib.hid hno) (Lib.hid hlg)
  · exact rapply_2c p v m st ep vi fr le es xs A XA FA c xc fn fc w ha hx hmay hlx Q hAQ0 f hf (Lib.hid hno) (Lib.hid hlg)
theorem rapply_any (p v m ki st ep vi fr le : Int) (es xs : List En) (A XA FA : Option Addr) (c xc fn fc : Nat) (w : World) (ha : EsB w.heap.size w (.slice A es.length c) es) (hx : EsB w.heap.size w (.slice XA xs.length xc) xs) (hlx : xs.length ≤ 100000) :
    Calls Tryd.prog 12 #[.agg #[.int .i64 p, .int .i64 v, .slice A es.length c, .int .i64 m], .agg #[.int .i64 ki, .int .i64 st, .int .i64 ep, .int .i64 vi, .int .i64 fr, .int .i64 le, .slice XA xs.length xc, .slice FA fn fc]] w (BehPost (appQ ⟨p, v, es, m⟩ ⟨ki, ep, vi, fr, le, xs⟩) w) := by
  cases hmay : (Re.mk p v es m).may with
  | false => exact rapply_not p v m ki st ep vi fr le es xs A XA FA c xc fn fc w ha hmay
  | true =>
    obtain ⟨-, hm0, -⟩ := may_len hmay
    obtain ⟨mn, rfl⟩ := Int.eq_ofNat_of_zero_le hm0
    by_cases h1 : ki = 1
    · subst h1; exact rapply_1 p v mn st ep vi fr le es xs A XA FA c xc fn fc w ha hx hmay hlx _ (Lib.hid rfl)
    by_cases h2 : ki = 2
    · subst h2; exact rapply_2 p v mn st ep vi fr le es xs A XA FA c xc fn fc w ha hx hmay hlx _ (Lib.hid rfl) _ (Lib.hid rfl)
    by_cases h3 : ki = 3
    · subst h3; exact rapply_3 p v mn st ep vi fr le es xs A XA FA c xc fn fc w ha hx hmay hlx _ (Lib.hid rfl)
    by_cases h4 : ki = 4
    · subst h4; exact rapply_4 p v mn st ep vi fr le es xs A XA FA c xc fn fc w ha hx hmay hlx _ (Lib.hid rfl)
    rw [appQ_0 h1 h2 h3 h4]
    exact rapply_0 p v mn ki st ep vi fr le es xs A XA FA c xc fn fc w ha hx hmay hlx h1 h2 h3 h4
end Go.Proofs.YtnbhdehpdfojlaaDoor
