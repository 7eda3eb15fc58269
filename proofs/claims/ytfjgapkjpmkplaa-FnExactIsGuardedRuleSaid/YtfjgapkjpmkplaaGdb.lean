/- Guards and guarded Rules in plain Lean, in memory, and as arguments; the law's sizes of them. -/
import Derived.Test.YtfjgapkjpmkplaaRut
namespace Go.Proofs.Ytfjgapkjpmkplaa.gdb
open kit bg sg opn strs only hb sig isig un over gn nm inn ht gd im pt marks eqs hc hi hw hn rs br bm bw cf lf ib isa lawb lw cl rub rui ruh rut chk rdx
open Go.RowKit Go.ChangeShapes Go.WideShapes Go.ChangeAt Go.Deep
set_option linter.unusedVariables false
set_option linter.unusedSimpArgs false
structure Grd where
  whr : Int
  no : Bool
  pat : Big
structure GRul where
  rule : Rul
  guards : List Grd
  prio : Int
noncomputable def grdB (cs : List Ctl) (g : Grd) : Bool := inb g.whr 1 3 && rdQ cs g.pat
noncomputable def gruB (cs : List Ctl) (g : GRul) : Bool := rulB cs g.rule && decide (g.guards.length ≤ 4) && inb g.prio 0 9 && g.guards.all (grdB cs)
def GrdAt (w : World) (B : Nat) (v : Value) (x : Grd) : Prop :=
  ∃ A1 n1 c1 A2 n2 c2 A4 n4 c4 A5 n5 c5, v = .agg #[.int .i64 x.whr, .bool x.no, .int .i64 x.pat.roots, .slice A1 n1 c1, .slice A2 n2 c2, .int .i64 x.pat.edges, .slice A4 n4 c4, .slice A5 n5 c5] ∧ BigAt w B (.agg #[.int .i64 x.pat.roots, .slice A1 n1 c1, .slice A2 n2 c2, .int .i64 x.pat.edges, .slice A4 n4 c4, .slice A5 n5 c5]) x.pat
theorem GrdAt.below {w w' : World} {B : Nat} {v : Value} {r : Grd} (h : GrdAt w B v r) (hb : Below B w w') : GrdAt w' B v r := by
  obtain ⟨A1, n1, c1, A2, n2, c2, A4, n4, c4, A5, n5, c5, e, h1⟩ := h
  exact ⟨_, _, _, _, _, _, _, _, _, _, _, _, e, h1.below hb⟩
theorem GrdAt.wide {w : World} {B B' : Nat} {v : Value} {r : Grd} (h : GrdAt w B v r) (hB : B ≤ B') : GrdAt w B' v r := by
  obtain ⟨A1, n1, c1, A2, n2, c2, A4, n4, c4, A5, n5, c5, e, h1⟩ := h
  exact ⟨_, _, _, _, _, _, _, _, _, _, _, _, e, h1.wide hB⟩
/-- a row of Guards -/
def GrdsAt (w : World) (B : Nat) (A : Option Addr) (n : Nat) (gs : List Grd) : Prop :=
  gs.length = n ∧ (0 < n → ∃ g off, A = some ⟨g, off, none⟩ ∧ g < B ∧ ∀ (k : Nat) x, gs[k]? = some x →
    ∃ v0 v1 v2 v3 v4 v5 v6 v7, w.cell? ⟨g, off + k * 8, none⟩ = some v0 ∧ w.cell? ⟨g, off + k * 8 + 1, none⟩ = some v1 ∧ w.cell? ⟨g, off + k * 8 + 2, none⟩ = some v2 ∧ w.cell? ⟨g, off + k * 8 + 3, none⟩ = some v3 ∧ w.cell? ⟨g, off + k * 8 + 4, none⟩ = some v4 ∧ w.cell? ⟨g, off + k * 8 + 5, none⟩ = some v5 ∧ w.cell? ⟨g, off + k * 8 + 6, none⟩ = some v6 ∧ w.cell? ⟨g, off + k * 8 + 7, none⟩ = some v7 ∧ GrdAt w B (.agg #[v0, v1, v2, v3, v4, v5, v6, v7]) x)
section
variable {w w' : World} {B B' n : Nat} {A : Option Addr} {gs : List Grd}
theorem GrdsAt.get {k : Nat} (h : GrdsAt w B A n gs) (hk : k < n) : ∃ g off x, A = some ⟨g, off, none⟩ ∧ g < B ∧ gs[k]? = some x ∧
    ∃ A1 n1 c1 A2 n2 c2 A4 n4 c4 A5 n5 c5, w.cell? ⟨g, off + k * 8, none⟩ = some (.int .i64 x.whr) ∧ w.cell? ⟨g, off + k * 8 + 1, none⟩ = some (.bool x.no) ∧ w.cell? ⟨g, off + k * 8 + 2, none⟩ = some (.int .i64 x.pat.roots) ∧ w.cell? ⟨g, off + k * 8 + 3, none⟩ = some (.slice A1 n1 c1) ∧ w.cell? ⟨g, off + k * 8 + 4, none⟩ = some (.slice A2 n2 c2) ∧
      w.cell? ⟨g, off + k * 8 + 5, none⟩ = some (.int .i64 x.pat.edges) ∧ w.cell? ⟨g, off + k * 8 + 6, none⟩ = some (.slice A4 n4 c4) ∧ w.cell? ⟨g, off + k * 8 + 7, none⟩ = some (.slice A5 n5 c5) ∧
      GrdAt w B (.agg #[.int .i64 x.whr, .bool x.no, .int .i64 x.pat.roots, .slice A1 n1 c1, .slice A2 n2 c2, .int .i64 x.pat.edges, .slice A4 n4 c4, .slice A5 n5 c5]) x := by
  obtain ⟨g, off, e, hg, hc⟩ := h.2 (by omega)
  have hx : gs[k]? = some (gs[k]'(by have := h.1; omega)) := List.getElem?_eq_getElem _
  obtain ⟨v0, v1, v2, v3, v4, v5, v6, v7, e0, e1, e2, e3, e4, e5, e6, e7, hb⟩ := hc k _ hx
  have hb' := hb
  obtain ⟨A1, n1, c1, A2, n2, c2, A4, n4, c4, A5, n5, c5, ev, -⟩ := hb'
  simp only [Value.agg.injEq, Array.mk.injEq, List.cons.injEq, and_true] at ev
  obtain ⟨rfl, rfl, rfl, rfl, rfl, rfl, rfl, rfl⟩ := ev
  exact ⟨g, off, _, e, hg, hx, _, _, _, _, _, _, _, _, _, _, _, _, e0, e1, e2, e3, e4, e5, e6, e7, hb⟩
theorem GrdsAt.below (h : GrdsAt w B A n gs) (hb : Below B w w') : GrdsAt w' B A n gs :=
  ⟨h.1, fun hn => by
    obtain ⟨g, off, e, hg, hc⟩ := h.2 hn
    refine ⟨g, off, e, hg, fun k b hk => ?_⟩
    obtain ⟨v0, v1, v2, v3, v4, v5, v6, v7, e0, e1, e2, e3, e4, e5, e6, e7, hv⟩ := hc k b hk
    exact ⟨v0, v1, v2, v3, v4, v5, v6, v7, (hb.cell (p := ⟨g, _, none⟩) hg).trans e0, (hb.cell (p := ⟨g, _, none⟩) hg).trans e1, (hb.cell (p := ⟨g, _, none⟩) hg).trans e2, (hb.cell (p := ⟨g, _, none⟩) hg).trans e3, (hb.cell (p := ⟨g, _, none⟩) hg).trans e4, (hb.cell (p := ⟨g, _, none⟩) hg).trans e5, (hb.cell (p := ⟨g, _, none⟩) hg).trans e6, (hb.cell (p := ⟨g, _, none⟩) hg).trans e7, hv.below hb⟩⟩
theorem GrdsAt.wide (h : GrdsAt w B A n gs) (hB : B ≤ B') : GrdsAt w B' A n gs :=
  ⟨h.1, fun hn => by
    obtain ⟨g, off, e, hg, hc⟩ := h.2 hn
    refine ⟨g, off, e, by omega, fun k b hk => ?_⟩
    obtain ⟨v0, v1, v2, v3, v4, v5, v6, v7, e0, e1, e2, e3, e4, e5, e6, e7, hv⟩ := hc k b hk
    exact ⟨v0, v1, v2, v3, v4, v5, v6, v7, e0, e1, e2, e3, e4, e5, e6, e7, hv.wide hB⟩⟩
end
def GRulAt (w : World) (B : Nat) (v : Value) (r : GRul) : Prop :=
  ∃ a0 a1 a2 a3 a4 a5 a6 a7 a8 a9 a10 a11 a12 G n c, v = .agg #[a0, a1, a2, a3, a4, a5, a6, a7, a8, a9, a10, a11, a12, .slice G n c, .int .i64 r.prio] ∧ RulAt w B (.agg #[a0, a1, a2, a3, a4, a5, a6, a7, a8, a9, a10, a11, a12]) r.rule ∧ GrdsAt w B G n r.guards
theorem GRulAt.below {w w' : World} {B : Nat} {v : Value} {r : GRul} (h : GRulAt w B v r) (hb : Below B w w') : GRulAt w' B v r := by
  obtain ⟨a0, a1, a2, a3, a4, a5, a6, a7, a8, a9, a10, a11, a12, G, n, c, e, h1, h2⟩ := h
  exact ⟨_, _, _, _, _, _, _, _, _, _, _, _, _, _, _, _, e, h1.below hb, h2.below hb⟩
theorem GRulAt.wide {w : World} {B B' : Nat} {v : Value} {r : GRul} (h : GRulAt w B v r) (hB : B ≤ B') : GRulAt w B' v r := by
  obtain ⟨a0, a1, a2, a3, a4, a5, a6, a7, a8, a9, a10, a11, a12, G, n, c, e, h1, h2⟩ := h
  exact ⟨_, _, _, _, _, _, _, _, _, _, _, _, _, _, _, _, e, h1.wide hB, h2.wide hB⟩
def GrdW (x : Grd) : Prop := (Lit.int .i64 x.whr).wf = true ∧ BigW x.pat
def GrdsW (gs : List Grd) : Prop := gs.length ≤ maxLen ∧ ∀ x ∈ gs, GrdW x
def GRulW (r : GRul) : Prop := RulW r.rule ∧ GrdsW r.guards ∧ (Lit.int .i64 r.prio).wf = true
def grdsWt (gs : List Grd) : Nat := gs.length + sumBy (fun x => bigWt x.pat) gs
def gruWt (r : GRul) : Nat := rulWt r.rule + grdsWt r.guards
def GRulS (r : GRul) : Prop := RulS r.rule ∧ r.guards.length ≤ 1048576 ∧ ∀ x ∈ r.guards, BigS x.pat
theorem gruS_of {r : GRul} (h : gruWt r ≤ 1048576) : GRulS r := by
  unfold gruWt grdsWt at h
  refine ⟨rulS_of (by omega), by omega, fun x hx => bigS_of ?_⟩
  have := sumBy_mem (fun x : Grd => bigWt x.pat) hx

  omega

/-! ### opening -/
section
variable {H : Type} {enc : TypeId × Value → H} {P : Program} {W : World} {fuel : Nat}
/-- a slice of structs: each element's cells and their reading -/
theorem rows_cuts {t e : TypeId} {fs : Array Field} {N : Nat} (ht : P.underlying t = some (.slice e)) (he : P.underlying e = some (.struct fs)) (hC : P.cellsOf e = N) (hN : 0 < N) {v : Value} {y : DataW H × List MemPlace}
    (h : DataW.trod enc P W 0 (fun _ => true) true fuel t [v] = some y) (hlt : ∀ x ∈ y.2, x.block < W.heap.size) :
    ∃ A n c, v = .slice A n c ∧ n ≤ maxLen ∧ (0 < n → ∃ b off, A = some ⟨b, off, none⟩ ∧ b < W.heap.size ∧ ∀ i, i < n → ∃ m cs, cs.length = N ∧ (∀ (j : Nat) u, cs[j]? = some u → W.cell? ⟨b, off + i * N + j, none⟩ = some u) ∧
      ∃ z : DataW H × List MemPlace, DataW.trod enc P W 0 (fun _ => true) true m e cs = some z ∧ ∀ x ∈ z.2, x.block < W.heap.size) := by
  rcases open_slice ht h with ⟨hcs, _⟩ | ⟨a, len, cap, m, n, D, Pl, hcs, _, hl, hm, hmm, hx, hi⟩
  · simp at hcs
    exact ⟨none, 0, 0, hcs, by unfold maxLen; omega, fun h0 => absurd h0 (by omega)⟩
  · simp at hcs hmm
    rw [hC] at hi
    have hel : ∀ i, i < m → ∃ m' cs, cs.length = N ∧ (∀ (j : Nat) u, cs[j]? = some u → W.cell? (a.add (i * N + j)) = some u) ∧ ∃ z : DataW H × List MemPlace, DataW.trod enc P W 0 (fun _ => true) true m' e cs = some z ∧ ∀ p ∈ z.2, p ∈ Pl i := by
      intro i him
      obtain ⟨cs', hc, ht'⟩ := hi i him
      obtain ⟨_, hcl, hat⟩ := World.cells?_some hc
      have hlN : cs'.length = N := hcl
      refine ⟨_, cs', hlN, fun j u hu => ?_, _, ht', fun p hp => hp⟩
      rw [← hu, ← hat j (by have := (List.getElem?_eq_some_iff.1 hu).1; omega), Go.Deep.add_add]
    refine ⟨some a, len, cap, hcs, by omega, fun h0 => ?_⟩
    obtain ⟨m0, cs0, hl0, hf0, -⟩ := hel 0 (by omega)
    have hc0 := hf0 0 _ (List.getElem?_eq_getElem (by omega))
    obtain ⟨b, off, spot⟩ := a
    have hspot : spot = none := by simpa [Addr.add] using World.cell?_spot hc0
    subst hspot
    have hb : b < W.heap.size := by
      have := World.block_lt_of_cell? W _ hc0
      rw [opn.add_none] at this
      exact this
    refine ⟨b, off, rfl, hb, fun i hin => ?_⟩
    obtain ⟨m', cs, hl', hf, z, hz, hsub⟩ := hel i (by omega)
    refine ⟨m', cs, hl', fun j u hu => ?_, z, hz, fun x hxz => hlt x ?_⟩
    · rw [← hf j u hu, opn.add_none, Nat.add_assoc]
    · rw [hx]
      exact List.mem_append.2 (.inr (List.mem_flatMap.2 ⟨i, List.mem_range.2 (by omega), hsub x hxz⟩))
end
theorem cells8 : Try.prog.cellsOf 134 = 8 := by kernel_rfl
theorem cells15 : Try.prog.cellsOf 48 = 15 := by kernel_rfl
theorem cellsI : Try.prog.cellsOf 3 = 1 := by kernel_rfl
theorem cellsB : Try.prog.cellsOf 4 = 1 := by kernel_rfl
theorem cellsGs : Try.prog.cellsOf 46 = 1 := by kernel_rfl
set_option maxRecDepth 100000 in
theorem open_grdc {H : Type} {enc : TypeId × Value → H} {W : World} {fuel : Nat} {cs : List Value} {y : DataW H × List MemPlace}
    (hf : DataW.trod enc Try.prog W 0 (fun _ => true) true fuel 134 cs = some y) (hlt : ∀ x ∈ y.2, x.block < W.heap.size) : ∃ r, GrdAt W W.heap.size (.agg cs.toArray) r ∧ GrdW r := by
  obtain ⟨hl, m, hp⟩ := struct_cuts (x := y) Try.underlying134 hf
  rw [cells8] at hl
  obtain ⟨z0, t0, l0⟩ := hp 0 _ rfl
  obtain ⟨z1, t1, l1⟩ := hp 1 _ rfl
  obtain ⟨z2, t2, l2⟩ := hp 2 _ rfl
  replace t0 : DataW.trod enc Try.prog W 0 (fun _ => true) true m 3 ((cs.drop 0).take (Try.prog.cellsOf 3)) = some z0 := t0
  replace t1 : DataW.trod enc Try.prog W 0 (fun _ => true) true m 4 ((cs.drop 1).take (Try.prog.cellsOf 4)) = some z1 := t1
  replace t2 : DataW.trod enc Try.prog W 0 (fun _ => true) true m 28 ((cs.drop 2).take (Try.prog.cellsOf 28)) = some z2 := t2
  rw [cellsI] at t0
  rw [cellsB] at t1
  rw [cells6] at t2
  match cs, hl with
  | [a0, a1, a2, a3, a4, a5, a6, a7], _ =>
    simp only [List.drop, List.take] at t0 t1 t2
    obtain ⟨q, x0, _, w0⟩ := DataW.trod_int Try.underlying3 t0
    obtain ⟨bo, x1, _⟩ := DataW.trod_bool Try.underlying4 t1
    obtain ⟨b, h0, w2⟩ := open_bigc t2 (fun x hx => hlt x (l2 x hx))
    simp at x0 x1
    subst x0 x1
    have h0' := h0
    obtain ⟨A1, n1, c1, A2, n2, c2, A4, n4, c4, A5, n5, c5, e0, -⟩ := h0'
    simp at e0
    obtain ⟨rfl, rfl, rfl, rfl, rfl, rfl⟩ := e0
    exact ⟨⟨q, bo, b⟩, ⟨A1, n1, c1, A2, n2, c2, A4, n4, c4, A5, n5, c5, rfl, h0⟩, w0, w2⟩
set_option maxRecDepth 100000 in
theorem open_grds {H : Type} {enc : TypeId × Value → H} {W : World} {fuel : Nat} {v : Value} {y : DataW H × List MemPlace}
    (h : DataW.trod enc Try.prog W 0 (fun _ => true) true fuel 46 [v] = some y) (hlt : ∀ x ∈ y.2, x.block < W.heap.size) : ∃ A n c gs, v = .slice A n c ∧ GrdsAt W W.heap.size A n gs ∧ GrdsW gs := by
  obtain ⟨A, n, c, rfl, hn, hr⟩ := rows_cuts Try.underlying46 Try.underlying134 cells8 (by decide) h hlt
  by_cases hz : 0 < n
  · obtain ⟨b, off, rfl, hb, hi⟩ := hr hz
    obtain ⟨gs, hl, hgs⟩ := list_of (α := Grd) (n := n) (Q := fun k x => (∃ v0 v1 v2 v3 v4 v5 v6 v7, W.cell? ⟨b, off + k * 8, none⟩ = some v0 ∧ W.cell? ⟨b, off + k * 8 + 1, none⟩ = some v1 ∧ W.cell? ⟨b, off + k * 8 + 2, none⟩ = some v2 ∧ W.cell? ⟨b, off + k * 8 + 3, none⟩ = some v3 ∧ W.cell? ⟨b, off + k * 8 + 4, none⟩ = some v4 ∧ W.cell? ⟨b, off + k * 8 + 5, none⟩ = some v5 ∧ W.cell? ⟨b, off + k * 8 + 6, none⟩ = some v6 ∧ W.cell? ⟨b, off + k * 8 + 7, none⟩ = some v7 ∧ GrdAt W W.heap.size (.agg #[v0, v1, v2, v3, v4, v5, v6, v7]) x) ∧ GrdW x) (fun i hin => by
      obtain ⟨m, cs, hcl, hat, z, hz2, hzl⟩ := hi i hin
      obtain ⟨x, hx, hw⟩ := open_grdc hz2 hzl
      match cs, hcl with
      | [a0, a1, a2, a3, a4, a5, a6, a7], _ =>
        exact ⟨x, ⟨a0, a1, a2, a3, a4, a5, a6, a7, hat 0 _ rfl, hat 1 _ rfl, hat 2 _ rfl, hat 3 _ rfl, hat 4 _ rfl, hat 5 _ rfl, hat 6 _ rfl, hat 7 _ rfl, by simpa using hx⟩, hw⟩)
    refine ⟨_, n, c, gs, rfl, ⟨hl, fun _ => ⟨b, off, rfl, hb, fun k x hk => (hgs k x hk).1⟩⟩, by omega, fun x hx => ?_⟩
    obtain ⟨k, hk⟩ := List.getElem?_of_mem hx
    exact (hgs k x hk).2
  · have : n = 0 := by omega
    subst this
    exact ⟨A, 0, c, [], rfl, ⟨rfl, fun h => absurd h (by omega)⟩, by simp [maxLen], by simp⟩
set_option maxRecDepth 100000 in
/-- an argument that is a guarded Rule -/
theorem open_grule {H : Type} {enc : TypeId × Value → H} {W : World} {base : Nat} {v : Value} {d : DataW H} {p : List MemPlace} (hv : Value.okWide Try.prog W .any base 48 v)
    (h : DataW.Trod enc Try.prog W 0 (fun _ => true) true 48 v d p) (hlt : ∀ x ∈ p, x.block < W.heap.size) : ∃ r, GRulAt W W.heap.size v r ∧ GRulW r := by
  obtain ⟨⟨cs⟩, rfl, _⟩ := okWide_struct Try.underlying48 hv
  obtain ⟨fuel, hf⟩ := h
  replace hf : DataW.trod enc Try.prog W 0 (fun _ => true) true fuel 48 cs = some (d, p) := by simpa [Value.cells] using hf
  obtain ⟨hl, m, hp⟩ := struct_cuts (x := (d, p)) Try.underlying48 hf
  rw [cells15] at hl
  obtain ⟨z0, t0, l0⟩ := hp 0 _ rfl
  obtain ⟨z1, t1, l1⟩ := hp 1 _ rfl
  obtain ⟨z2, t2, l2⟩ := hp 2 _ rfl
  replace t0 : DataW.trod enc Try.prog W 0 (fun _ => true) true m 30 ((cs.drop 0).take (Try.prog.cellsOf 30)) = some z0 := t0
  replace t1 : DataW.trod enc Try.prog W 0 (fun _ => true) true m 46 ((cs.drop 13).take (Try.prog.cellsOf 46)) = some z1 := t1
  replace t2 : DataW.trod enc Try.prog W 0 (fun _ => true) true m 3 ((cs.drop 14).take (Try.prog.cellsOf 3)) = some z2 := t2
  rw [cells13] at t0
  rw [cellsGs] at t1
  rw [cellsI] at t2
  match cs, hl with
  | [a0, a1, a2, a3, a4, a5, a6, a7, a8, a9, a10, a11, a12, a13, a14], _ =>
    simp only [List.drop, List.take] at t0 t1 t2
    obtain ⟨r, h0, w0⟩ := open_rulc t0 (fun x hx => hlt x (l0 x hx))
    obtain ⟨A, n, c, gs, rfl, h1, w1⟩ := open_grds t1 (fun x hx => hlt x (l1 x hx))
    obtain ⟨q, x0, _, w2⟩ := DataW.trod_int Try.underlying3 t2
    simp at x0
    subst x0
    exact ⟨⟨r, gs, q⟩, ⟨a0, a1, a2, a3, a4, a5, a6, a7, a8, a9, a10, a11, a12, A, n, c, rfl, by simpa using h0, h1⟩, w0, w1, w2⟩
end Go.Proofs.Ytfjgapkjpmkplaa.gdb
