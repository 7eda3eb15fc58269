/- Rules in plain Lean, in memory, and as arguments of a law; boxes of any number of cells. -/
import Derived.Test.YtfjgapkjpmkplaaRdx
import Derived.Test.YtfjgapkjpmkplaaQd
import Derived.Handy
namespace Go.Proofs.Ytfjgapkjpmkplaa.rub
open kit bg sg opn strs only hb sig isig un over gn nm inn ht gd im pt marks eqs hc hi hw hn rs br bm bw cf lf ib isa lawb lw cl rt chd pts psp idl idm pl chk rdx
open Go.RowKit Go.ChangeShapes Go.WideShapes Go.ChangeAt
set_option linter.unusedVariables false
set_option linter.unusedSimpArgs false

/-! ### boxes -/
def BoxN (w : World) (β : Nat) (t : TypeId) (l : List Value) : Prop := w.rowIs β t l.length (fun i => (l[i]?).getD undef)
section
variable {w w' : World} {β B : Nat} {t : TypeId} {l : List Value}
theorem BoxN.cell (h : BoxN w β t l) {i : Nat} {v : Value} (hi : l[i]? = some v) : w.cell? ⟨β, i, none⟩ = some v := by
  have := World.rowIs.cell h (show i < l.length from (List.getElem?_eq_some_iff.1 hi).1)
  rw [hi] at this
  exact this
theorem BoxN.below (h : BoxN w β t l) (hb : Below B w w') (hB : β < B) : BoxN w' β t l := World.rowIs.of_block h (hb.block β hB)
theorem BoxN.lt (h : BoxN w β t l) : β < w.heap.size := World.rowIs.lt h
theorem BoxN.on (h : BoxN w β t l) (hb : Below w.heap.size w w') : BoxN w' β t l := h.below hb h.lt
theorem BoxN.new (w : World) (c : Array Value) (t : TypeId) : BoxN (w.alloc (.cells c t)) w.heap.size t c.toList := by
  unfold BoxN
  refine World.rowIs.congr (row_new w c t c.toList.length (by simp)) (fun i hi => ?_)
  simp
theorem BoxN.set (h : BoxN w β t l) (k : Nat) (u : Value) : BoxN (w.setCell ⟨β, k, none⟩ u) β t (l.set k u) := by
  unfold BoxN
  rw [List.length_set]
  refine World.rowIs.congr (World.rowIs.set h k u) (fun i hi => ?_)
  by_cases e : i = k
  · subst e
    simp [hi]
  · simp [e, List.getElem?_set, Ne.symm e]
theorem BoxN.other {γ : Nat} (h : BoxN w β t l) (hn : β ≠ γ) (k : Nat) (u : Value) : BoxN (w.setCell ⟨γ, k, none⟩ u) β t l := World.rowIs.setOther (a := ⟨γ, k, none⟩) h hn u
end

/-! ### Rules -/
structure Rul where
  redex : Big
  reactum : Big
  copies : List Int
def copyB (r : Rul) : Bool := r.copies.all (fun z => inb z 0 ((r.redex.sites.length : Int) - 1))
noncomputable def rulB (cs : List Ctl) (r : Rul) : Bool := rdQ cs r.redex && bigB cs r.reactum && decide (r.reactum.inner.length = 0) && decide (r.redex.roots = r.reactum.roots) && decide (r.redex.outer = r.reactum.outer) && decide (r.copies.length = r.reactum.sites.length) && copyB r
theorem rul_of {cs : List Ctl} {r : Rul} (h : rulB cs r = true) : rdQ cs r.redex = true ∧ bigB cs r.reactum = true ∧ r.reactum.inner.length = 0 ∧ r.redex.roots = r.reactum.roots ∧ r.redex.outer = r.reactum.outer ∧ r.copies.length = r.reactum.sites.length ∧ copyB r = true := by
  unfold rulB at h
  simp only [Bool.and_eq_true, decide_eq_true_eq] at h
  obtain ⟨⟨⟨⟨⟨⟨h1, h2⟩, h3⟩, h4⟩, h5⟩, h6⟩, h7⟩ := h
  exact ⟨h1, h2, h3, h4, h5, h6, h7⟩
theorem rul_mk {cs : List Ctl} {r : Rul} (h1 : rdQ cs r.redex = true) (h2 : bigB cs r.reactum = true) (h3 : r.reactum.inner.length = 0) (h4 : r.redex.roots = r.reactum.roots) (h5 : r.redex.outer = r.reactum.outer) (h6 : r.copies.length = r.reactum.sites.length) : rulB cs r = copyB r := by
  unfold rulB
  rw [h1, h2, decide_eq_true h3, decide_eq_true h4, decide_eq_true h5, decide_eq_true h6]
  rfl
theorem rul_no {cs : List Ctl} {r : Rul} (h : ¬ (rdQ cs r.redex = true ∧ bigB cs r.reactum = true ∧ r.reactum.inner.length = 0 ∧ r.redex.roots = r.reactum.roots ∧ r.redex.outer = r.reactum.outer ∧ r.copies.length = r.reactum.sites.length ∧ copyB r = true)) : rulB cs r = false := by
  cases hq : rulB cs r with
  | false => rfl
  | true => exact absurd (rul_of hq) h

/-- a Rule as a value -/
def RulAt (w : World) (B : Nat) (v : Value) (r : Rul) : Prop :=
  ∃ A1 n1 c1 A2 n2 c2 A4 n4 c4 A5 n5 c5 B1 m1 d1 B2 m2 d2 B4 m4 d4 B5 m5 d5 C7 n7 c7,
    v = .agg #[.int .i64 r.redex.roots, .slice A1 n1 c1, .slice A2 n2 c2, .int .i64 r.redex.edges, .slice A4 n4 c4, .slice A5 n5 c5, .int .i64 r.reactum.roots, .slice B1 m1 d1, .slice B2 m2 d2, .int .i64 r.reactum.edges, .slice B4 m4 d4, .slice B5 m5 d5, .slice C7 n7 c7] ∧
    BigAt w B (.agg #[.int .i64 r.redex.roots, .slice A1 n1 c1, .slice A2 n2 c2, .int .i64 r.redex.edges, .slice A4 n4 c4, .slice A5 n5 c5]) r.redex ∧
    BigAt w B (.agg #[.int .i64 r.reactum.roots, .slice B1 m1 d1, .slice B2 m2 d2, .int .i64 r.reactum.edges, .slice B4 m4 d4, .slice B5 m5 d5]) r.reactum ∧ IntsAt w B C7 n7 r.copies
theorem RulAt.below {w w' : World} {B : Nat} {v : Value} {r : Rul} (h : RulAt w B v r) (hb : Below B w w') : RulAt w' B v r := by
  obtain ⟨A1, n1, c1, A2, n2, c2, A4, n4, c4, A5, n5, c5, B1, m1, d1, B2, m2, d2, B4, m4, d4, B5, m5, d5, C7, n7, c7, e, h1, h2, h3⟩ := h
  exact ⟨_, _, _, _, _, _, _, _, _, _, _, _, _, _, _, _, _, _, _, _, _, _, _, _, _, _, _, e, h1.below hb, h2.below hb, h3.below hb⟩
theorem RulAt.wide {w : World} {B B' : Nat} {v : Value} {r : Rul} (h : RulAt w B v r) (hB : B ≤ B') : RulAt w B' v r := by
  obtain ⟨A1, n1, c1, A2, n2, c2, A4, n4, c4, A5, n5, c5, B1, m1, d1, B2, m2, d2, B4, m4, d4, B5, m5, d5, C7, n7, c7, e, h1, h2, h3⟩ := h
  exact ⟨_, _, _, _, _, _, _, _, _, _, _, _, _, _, _, _, _, _, _, _, _, _, _, _, _, _, _, e, h1.wide hB, h2.wide hB, h3.wide hB⟩
def RulW (r : Rul) : Prop := BigW r.redex ∧ BigW r.reactum ∧ r.copies.length ≤ maxLen ∧ ∀ z ∈ r.copies, (Lit.int .i64 z).wf = true
def RulS (r : Rul) : Prop := BigS r.redex ∧ BigS r.reactum ∧ r.copies.length ≤ 1048576
def rulWt (r : Rul) : Nat := bigWt r.redex + bigWt r.reactum + r.copies.length
theorem rulS_of {r : Rul} (h : rulWt r ≤ 1048576) : RulS r := by
  unfold rulWt at h
  exact ⟨bigS_of (by omega), bigS_of (by omega), by omega⟩

/-! ### opening -/
section
variable {H : Type} {enc : TypeId × Value → H} {P : Program} {W : World} {fuel : Nat}
/-- the parts of a struct, whatever its fields are -/
theorem struct_cuts {t : TypeId} {fs : Array Field} {cs : List Value} {x : DataW H × List MemPlace} (hs : P.underlying t = some (.struct fs))
    (h : DataW.trod enc P W 0 (fun _ => true) true fuel t cs = some x) : cs.length = P.cellsOf t ∧ ∃ m, ∀ (j : Nat) f, fs[j]? = some f → ∃ z, DataW.trod enc P W 0 (fun _ => true) true m f.type ((cs.drop f.offset).take (P.cellsOf f.type)) = some z ∧ ∀ p ∈ z.2, p ∈ x.2 := by
  obtain ⟨xs, m, _, hx, hlen, hxl, hf⟩ := DataW.trod_struct hs h
  refine ⟨hlen, m, fun j f hj => ?_⟩
  have hjl : j < fs.size := (Array.getElem?_eq_some_iff.1 hj).1
  have h1 := hf j f hj
  have hxj : xs[j]? = some (xs[j]'(by omega)) := List.getElem?_eq_getElem _
  refine ⟨_, h1.trans hxj, fun p hp => ?_⟩
  rw [hx]
  exact List.mem_flatMap.2 ⟨_, List.getElem_mem _, hp⟩
end

set_option maxRecDepth 100000 in
/-- six cells that are a Bigraph -/
theorem open_bigc {H : Type} {enc : TypeId × Value → H} {W : World} {fuel : Nat} {cs : List Value} {y : DataW H × List MemPlace}
    (hf : DataW.trod enc Try.prog W 0 (fun _ => true) true fuel 28 cs = some y) (hlt : ∀ x ∈ y.2, x.block < W.heap.size) : ∃ b, BigAt W W.heap.size (.agg cs.toArray) b ∧ BigW b := by
  obtain ⟨hl, m, hp⟩ := struct_parts (x := y) Try.underlying28 (by kernel_rfl) (by kernel_rfl) hf
  obtain ⟨u0, z0, e0, t0, l0⟩ := hp 0 _ rfl
  obtain ⟨u1, z1, e1, t1, l1⟩ := hp 1 _ rfl
  obtain ⟨u2, z2, e2, t2, l2⟩ := hp 2 _ rfl
  obtain ⟨u3, z3, e3, t3, l3⟩ := hp 3 _ rfl
  obtain ⟨u4, z4, e4, t4, l4⟩ := hp 4 _ rfl
  obtain ⟨u5, z5, e5, t5, l5⟩ := hp 5 _ rfl
  obtain ⟨r, x0, _, w0⟩ := DataW.trod_int Try.underlying3 t0
  obtain ⟨A1, n1, c1, ns, rfl, h1, b1, w1⟩ := nds_of Try.underlying23 Try.underlying140 (by kernel_rfl) (by kernel_rfl) Try.underlying3 Try.underlying3 rfl Try.underlying24 Try.underlying3 (by kernel_rfl) t1 (fun x hx => hlt x (l1 x hx))
  obtain ⟨A2, n2, c2, ss, rfl, h2, b2, w2⟩ := ints_of Try.underlying24 Try.underlying3 (by kernel_rfl) t2 (fun x hx => hlt x (l2 x hx))
  obtain ⟨g, x3, _, w3⟩ := DataW.trod_int Try.underlying3 t3
  obtain ⟨A4, n4, c4, os, rfl, h4, b4, w4⟩ := strs_of Try.underlying25 Try.underlying9 (by kernel_rfl) t4 (fun x hx => hlt x (l4 x hx))
  obtain ⟨A5, n5, c5, is, rfl, h5, b5, w5⟩ := wrs_of Try.underlying26 Try.underlying142 (by kernel_rfl) (by kernel_rfl) Try.underlying9 Try.underlying3 t5 (fun x hx => hlt x (l5 x hx))
  simp at x0 x3
  subst x0 x3
  have hcs : cs = [.int .i64 r, .slice A1 n1 c1, .slice A2 n2 c2, .int .i64 g, .slice A4 n4 c4, .slice A5 n5 c5] := by
    have hl' : cs.length = 6 := hl
    match cs, hl' with
    | [a, b, c, d, e, f], _ =>
      simp at e0 e1 e2 e3 e4 e5
      simp [e0, e1, e2, e3, e4, e5]
  subst hcs
  have q1 := h1.1
  have q2 := h2.len
  have q4 := h4.strlen
  have q5 := h5.1
  exact ⟨⟨r, ns, ss, g, os, is⟩, ⟨A1, n1, c1, A2, n2, c2, A4, n4, c4, A5, n5, c5, rfl, h1, h2, h4, h5⟩, w0, w3, by show ns.length ≤ _; omega, w1, by show ss.length ≤ _; omega, w2, by show os.length ≤ _; omega, w4, by show is.length ≤ _; omega, w5⟩

theorem cells6 : Try.prog.cellsOf 28 = 6 := by kernel_rfl
theorem cells13 : Try.prog.cellsOf 30 = 13 := by kernel_rfl
theorem cells1 : Try.prog.cellsOf 24 = 1 := by kernel_rfl
set_option maxRecDepth 100000 in
/-- thirteen cells that are a Rule -/
theorem open_rulc {H : Type} {enc : TypeId × Value → H} {W : World} {fuel : Nat} {cs : List Value} {y : DataW H × List MemPlace}
    (hf : DataW.trod enc Try.prog W 0 (fun _ => true) true fuel 30 cs = some y) (hlt : ∀ x ∈ y.2, x.block < W.heap.size) : ∃ r, RulAt W W.heap.size (.agg cs.toArray) r ∧ RulW r := by
  obtain ⟨hl, m, hp⟩ := struct_cuts (x := y) Try.underlying30 hf
  rw [cells13] at hl
  obtain ⟨z0, t0, l0⟩ := hp 0 _ rfl
  obtain ⟨z1, t1, l1⟩ := hp 1 _ rfl
  obtain ⟨z2, t2, l2⟩ := hp 2 _ rfl
  replace t0 : DataW.trod enc Try.prog W 0 (fun _ => true) true m 28 ((cs.drop 0).take (Try.prog.cellsOf 28)) = some z0 := t0
  replace t1 : DataW.trod enc Try.prog W 0 (fun _ => true) true m 28 ((cs.drop 6).take (Try.prog.cellsOf 28)) = some z1 := t1
  replace t2 : DataW.trod enc Try.prog W 0 (fun _ => true) true m 24 ((cs.drop 12).take (Try.prog.cellsOf 24)) = some z2 := t2
  rw [cells6] at t0 t1
  rw [cells1] at t2
  match cs, hl with
  | [a0, a1, a2, a3, a4, a5, a6, a7, a8, a9, a10, a11, a12], _ =>
    simp only [List.drop, List.take] at t0 t1 t2
    obtain ⟨b, h0, w0⟩ := open_bigc t0 (fun x hx => hlt x (l0 x hx))
    obtain ⟨d, h1, w1⟩ := open_bigc t1 (fun x hx => hlt x (l1 x hx))
    obtain ⟨A, n, c, zs, rfl, h2, w2, w3⟩ := ints_of Try.underlying24 Try.underlying3 (by kernel_rfl) t2 (fun x hx => hlt x (l2 x hx))
    have h0' := h0
    have h1' := h1
    obtain ⟨A1, n1, c1, A2, n2, c2, A4, n4, c4, A5, n5, c5, e0, -⟩ := h0'
    obtain ⟨B1, m1, d1, B2, m2, d2, B4, m4, d4, B5, m5, d5, e1, -⟩ := h1'
    simp at e0 e1
    obtain ⟨rfl, rfl, rfl, rfl, rfl, rfl⟩ := e0
    obtain ⟨rfl, rfl, rfl, rfl, rfl, rfl⟩ := e1
    have := h2.len
    exact ⟨⟨b, d, zs⟩, ⟨A1, n1, c1, A2, n2, c2, A4, n4, c4, A5, n5, c5, B1, m1, d1, B2, m2, d2, B4, m4, d4, B5, m5, d5, A, n, c, rfl, h0, h1, h2⟩, w0, w1, by show zs.length ≤ _; omega, w3⟩

set_option maxRecDepth 100000 in
/-- an argument that is a Rule -/
theorem open_rule {H : Type} {enc : TypeId × Value → H} {W : World} {base : Nat} {v : Value} {d : DataW H} {p : List MemPlace} (hv : Value.okWide Try.prog W .any base 30 v)
    (h : DataW.Trod enc Try.prog W 0 (fun _ => true) true 30 v d p) (hlt : ∀ x ∈ p, x.block < W.heap.size) : ∃ r, RulAt W W.heap.size v r ∧ RulW r := by
  obtain ⟨cs, rfl, _⟩ := okWide_struct Try.underlying30 hv
  obtain ⟨fuel, hf⟩ := h
  have := open_rulc (y := (d, p)) (by simpa [Value.cells] using hf) hlt
  simpa using this
end Go.Proofs.Ytfjgapkjpmkplaa.rub
