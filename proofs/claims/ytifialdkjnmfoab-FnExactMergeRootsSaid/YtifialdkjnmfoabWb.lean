/- Wirings: where they lie; append to an empty slice from a source that may be nil. -/
import Derived.Test.YtifialdkjnmfoabMb
import Derived.Test.YtifialdkjnmfoabSb
namespace Go.Proofs.Ytifialdkjnmfoab.wb
open kit bg sg opn strs only hb sig isig un over gn nm inn ht gd im pt marks eqs hc hi hw hn rs br bm bw cf lf ib lawb lw cl pl mb sb
open Go.RowKit
set_option linter.unusedVariables false
/-- a Bigraph of edges and names alone -/
def wiring (E : Int) (outer : List ByteArray) (inner : List Wr) : Big := ⟨0, [], [], E, outer, inner⟩
theorem wiring_big {w : World} {lo hi c4 c5 : Nat} {A4 A5 : Option Addr} {E : Int} {outer : List ByteArray} {inner : List Wr} (h4 : RowR w lo hi 9 1 A4 outer.length c4 (at_ outer)) (h5 : RowR w lo hi 60 2 A5 inner.length c5 (wic inner)) :
    BigR w lo hi (.agg #[.int .i64 0, .slice none 0 0, .slice none 0 0, .int .i64 E, .slice A4 outer.length c4, .slice A5 inner.length c5]) (wiring E outer inner) :=
  ⟨⟨none, 0, none, 0, A4, c4, A5, c5, fun _ => none, fun _ => 0⟩, rfl, fun k hk => absurd hk (Nat.not_lt_zero k), ⟨RowR.nil, fun k hk => absurd hk (Nat.not_lt_zero k)⟩, RowR.nil, h4, h5⟩
theorem wiring_len {E : Int} {outer : List ByteArray} {inner : List Wr} (h4 : outer.length ≤ 16) (h5 : inner.length ≤ 16) : bigMk (wiring E outer inner) ≤ 1048576 := by
  unfold wiring bigMk ndMk
  simp [sumBy]
  omega
theorem strs_row {w : World} {lo hi c : Nat} {A : Option Addr} {n : Nat} {ss : List ByteArray} (hl : ss.length = n) (h : RowR w lo hi 9 1 A n c (at_ ss)) : RowR w lo hi 9 1 A ss.length c (at_ ss) := by rw [hl]; exact h
theorem wrs_row {w : World} {lo hi c : Nat} {A : Option Addr} {n : Nat} {ws : List Wr} (hl : ws.length = n) (h : RowR w lo hi 60 2 A n c (wic ws)) : RowR w lo hi 60 2 A ws.length c (wic ws) := by rw [hl]; exact h
theorem strs_owned {w : World} {lo n : Nat} {v : Value} {ss : List ByteArray} (h : w.ownsRow lo 9 1 v n (ss.map Value.string)) : ∃ A c, v = .slice A ss.length c ∧ RowR w lo w.heap.size 9 1 A ss.length c (at_ ss) := by
  have hl : ss.length = n := by have := h.1; rw [List.length_map] at this; omega
  obtain ⟨A, c, rfl, hR⟩ := rowR_owns h
  rw [← hl] at hR ⊢
  exact ⟨A, c, rfl, hR.congr (fun x hx => by
    have hx2 : x < ss.length := by omega
    have e : ss[x]? = some ss[x] := List.getElem?_eq_getElem hx2
    rw [List.getElem?_map, e, at_of e]; rfl)⟩
theorem wrs_owned {w : World} {lo n : Nat} {v : Value} {ws : List Wr} (h : w.ownsRow lo 60 2 v n (wcs ws)) : ∃ A c, v = .slice A ws.length c ∧ RowR w lo w.heap.size 60 2 A ws.length c (wic ws) := by
  have hl : ws.length = n := by have := h.1; rw [wcs_len] at this; omega
  obtain ⟨A, c, rfl, hR⟩ := rowR_owns h
  rw [← hl] at hR ⊢
  exact ⟨A, c, rfl, hR.congr (fun x hx => wcs_wic hx)⟩
theorem sr_src {w : World} {B n : Nat} {A : Option Addr} {xs : List Value} (h : SR w B A n xs) : ∀ ad, A = some ad → ∀ j u, xs[j]? = some u → w.cell? (ad.add j) = some u := fun ad e => by subst e; exact sr_cells h
theorem wrs_src {w : World} {B n : Nat} {A : Option Addr} {ws : List Wr} (h : WrsAt w B A n ws) : ∀ ad, A = some ad → ∀ j u, (wcs ws)[j]? = some u → w.cell? (ad.add j) = some u := fun ad e => by subst e; exact wcs_cells h
theorem sr_zero {w : World} {B n : Nat} {A : Option Addr} {xs : List Value} (h : SR w B A n xs) (e : A = none) : n = 0 := by
  by_cases h0 : n = 0
  · exact h0
  · obtain ⟨b, off, e2, _⟩ := h.2 (by omega)
    rw [e] at e2; cases e2
theorem wrs_zero {w : World} {B n : Nat} {A : Option Addr} {ws : List Wr} (h : WrsAt w B A n ws) (e : A = none) : n = 0 := by
  by_cases h0 : n = 0
  · exact h0
  · obtain ⟨b, off, e2, _⟩ := h.2 (by omega)
    rw [e] at e2; cases e2

theorem wpList_append_src {P : Program} (w : World) {ops : Array Oper} {rest : List Oper} {o : Oper} {a : Act} {Q : Exit → Act → World → Prop} (hgd : o.guard = none) (s x : Operand) (t : TypeId)
    (ho : o.op = .call { callee := .builtin .append, args := #[s, x], argTypes := #[t, t] })
    (base : Nat) (e : TypeId) (i : TypeInfo) (z : Value) (size bytes : Nat) (ht : P.underlying t = some (.slice e)) (hi : P.info? e = some i) (hz : i.zero = some z)
    (hsize : i.size = size) (hby : i.bytes = bytes) (hzs : z.cells.size = size) (hsz : 0 < size)
    (v : Value) (n : Nat) (xs : List Value) (hs : a.eval s = v) (hown : w.ownsRow base e size v n xs)
    (A : Option Addr) (m c : Nat) (news : List Value) (hx : a.eval x = .slice A m c) (hnil : A = none → m = 0 ∧ c = 0) (hl : news.length = m * size) (hnews : ∀ ad, A = some ad → ∀ j u, news[j]? = some u → w.cell? (ad.add j) = some u) (h1 : ∀ u ∈ news, u.oneCell' = true)
    (h63 : n + m ≤ maxLen) (hbytes : (n + m) * bytes ≤ 140737488355328) (hbase : base ≤ w.heap.size)
    (h : ∀ v' w', w'.ownsRow base e size v' (n + m) (xs ++ news) → w.grownBy w' v.ownBlock → wpList P ops Q rest (a.put o.dst v') w') : wpList P ops Q (o :: rest) a w := by
  cases A with
  | some ad => exact wpList_append_own w hgd s x t ho base e i z size bytes ht hi hz hsize hby hzs hsz v n xs hs hown ad m c news hx hl (hnews ad rfl) h1 h63 hbytes hbase (fun v' w' a b _ => h v' w' a b)
  | none =>
    obtain ⟨rfl, rfl⟩ := hnil rfl
    have hne : news = [] := List.eq_nil_of_length_eq_zero (by rw [hl]; omega)
    subst hne
    exact wpList_append_own_none hgd s x t ho base e i size ht hi v n xs hs hown hx (h v w (by simpa using hown) (World.grownBy.refl w _))
end Go.Proofs.Ytifialdkjnmfoab.wb
