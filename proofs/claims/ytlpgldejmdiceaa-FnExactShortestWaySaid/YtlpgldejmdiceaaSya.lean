/- Systems in memory: Steps, States; a law's argument that is a System or a list of Steps; boxes of any number of cells. -/
import Derived.Test.YtlpgldejmdiceaaSyx
import Derived.Test.YtlpgldejmdiceaaBgs
import Derived.Handy
import Derived.OpenShut
namespace Go.Proofs.Ytlpgldejmdiceaa.sya
open kit bg sg opn strs only hb sig isig un over gn nm inn ht gd im pt marks eqs hc hi hw hn rs br bm bw cf lf ib isa lawb lw cl bgs cz syx
open Go.RowKit Go.ChangeShapes Go.WideShapes Go.ChangeAt Go.Deep
set_option linter.unusedVariables false
set_option linter.unusedSimpArgs false

/-! ### boxes -/
def BoxN (w : World) (β : Nat) (t : TypeId) (l : List Value) : Prop := w.rowIs β t l.length (fun i => (l[i]?).getD undef)
section
variable {w w' : World} {β B : Nat} {t : TypeId} {l : List Value}
theorem BoxN.cell (h : BoxN w β t l) {i : Nat} {v : Value} (hi : l[i]? = some v) : w.cell? ⟨β, i, none⟩ = some v := by
  have := World.rowIs.cell h (show i < l.length from (List.getElem?_eq_some_iff.1 hi).1)
  rw [hi] at this
  exact this
theorem BoxN.below (h : BoxN w β t l) (hb : Below B w w') (hB : β < B) : BoxN w' β t l := World.rowIs.of_block h (hb.block β hB)
theorem BoxN.lt (h : BoxN w β t l) : β < w.heap.size := World.rowIs.lt h
theorem BoxN.on (h : BoxN w β t l) (hb : Below w.heap.size w w') : BoxN w' β t l := h.below hb h.lt
theorem BoxN.new (w : World) (c : Array Value) (t : TypeId) : BoxN (w.alloc (.cells c t)) w.heap.size t c.toList := by
  unfold BoxN
  refine World.rowIs.congr (row_new w c t c.toList.length (by simp)) (fun i hi => ?_)
  simp
theorem BoxN.set (h : BoxN w β t l) (k : Nat) (u : Value) : BoxN (w.setCell ⟨β, k, none⟩ u) β t (l.set k u) := by
  unfold BoxN
  rw [List.length_set]
  refine World.rowIs.congr (World.rowIs.set h k u) (fun i hi => ?_)
  by_cases e : i = k
  · subst e
    simp [hi]
  · simp [e, List.getElem?_set, Ne.symm e]
theorem BoxN.other {γ : Nat} (h : BoxN w β t l) (hn : β ≠ γ) (k : Nat) (u : Value) : BoxN (w.setCell ⟨γ, k, none⟩ u) β t l := World.rowIs.setOther (a := ⟨γ, k, none⟩) h hn u
theorem BoxN.drew (h : BoxN w β t l) : BoxN w.drew β t l := World.rowIs.drew h
theorem box2 {a b : Value} (h : BoxN w β t [a, b]) : w.cell? ⟨β, 0, none⟩ = some a ∧ w.cell? ⟨β, 1, none⟩ = some b := ⟨h.cell rfl, h.cell rfl⟩
theorem box3 {a b c : Value} (h : BoxN w β t [a, b, c]) : w.cell? ⟨β, 0, none⟩ = some a ∧ w.cell? ⟨β, 1, none⟩ = some b ∧ w.cell? ⟨β, 2, none⟩ = some c := ⟨h.cell rfl, h.cell rfl, h.cell rfl⟩
end

/-! ### Steps in memory -/
/-- a list of triples at a slice -/
def TriAt (w : World) (B : Nat) (A : Option Addr) (n : Nat) (ts : List Tri) : Prop :=
  ts.length = n ∧ (0 < n → ∃ g off, A = some ⟨g, off, none⟩ ∧ g < B ∧ ∀ (k : Nat) t, ts[k]? = some t → w.cell? ⟨g, off + k * 3, none⟩ = some (.int .i64 t.1) ∧ w.cell? ⟨g, off + k * 3 + 1, none⟩ = some (.int .i64 t.2.1) ∧ w.cell? ⟨g, off + k * 3 + 2, none⟩ = some (.int .i64 t.2.2))
section
variable {w w' : World} {B B' n : Nat} {A : Option Addr} {ts : List Tri}
theorem TriAt.len (h : TriAt w B A n ts) : ts.length = n := h.1
theorem TriAt.get {k : Nat} (h : TriAt w B A n ts) (hk : k < n) : ∃ g off t, A = some ⟨g, off, none⟩ ∧ g < B ∧ ts[k]? = some t ∧ w.cell? ⟨g, off + k * 3, none⟩ = some (.int .i64 t.1) ∧ w.cell? ⟨g, off + k * 3 + 1, none⟩ = some (.int .i64 t.2.1) ∧ w.cell? ⟨g, off + k * 3 + 2, none⟩ = some (.int .i64 t.2.2) := by
  obtain ⟨g, off, e, hg, hc⟩ := h.2 (by omega)
  have hx : ts[k]? = some (ts[k]'(by have := h.1; omega)) := List.getElem?_eq_getElem _
  exact ⟨g, off, _, e, hg, hx, hc k _ hx⟩
theorem TriAt.below (h : TriAt w B A n ts) (hb : Below B w w') : TriAt w' B A n ts :=
  ⟨h.1, fun hn => by
    obtain ⟨g, off, e, hg, hc⟩ := h.2 hn
    refine ⟨g, off, e, hg, fun k b hk => ?_⟩
    obtain ⟨e0, e1, e2⟩ := hc k b hk
    exact ⟨(hb.cell (p := ⟨g, _, none⟩) hg).trans e0, (hb.cell (p := ⟨g, _, none⟩) hg).trans e1, (hb.cell (p := ⟨g, _, none⟩) hg).trans e2⟩⟩
theorem TriAt.wide (h : TriAt w B A n ts) (hB : B ≤ B') : TriAt w B' A n ts :=
  ⟨h.1, fun hn => by
    obtain ⟨g, off, e, hg, hc⟩ := h.2 hn
    exact ⟨g, off, e, by omega, hc⟩⟩
theorem TriAt.on (h : TriAt w w.heap.size A n ts) (hb : Below w.heap.size w w') : TriAt w' w'.heap.size A n ts := (h.below hb).wide hb.size
end
/-- the cells of a row of triples -/
def trc (ts : List Tri) (i : Nat) : Value :=
  match ts[i / 3]? with
  | none => .int .i64 0
  | some t => if i % 3 = 0 then .int .i64 t.1 else if i % 3 = 1 then .int .i64 t.2.1 else .int .i64 t.2.2
theorem trc_at {ts : List Tri} {k : Nat} {t : Tri} (h : ts[k]? = some t) : trc ts (k * 3) = .int .i64 t.1 ∧ trc ts (k * 3 + 1) = .int .i64 t.2.1 ∧ trc ts (k * 3 + 2) = .int .i64 t.2.2 := by
  unfold trc
  have e0 : k * 3 / 3 = k := by omega
  have e1 : (k * 3 + 1) / 3 = k := by omega
  have e2 : (k * 3 + 2) / 3 = k := by omega
  have f0 : k * 3 % 3 = 0 := by omega
  have f1 : (k * 3 + 1) % 3 = 1 := by omega
  have f2 : (k * 3 + 2) % 3 = 2 := by omega
  simp only [e0, e1, e2, f0, f1, f2, h]
  simp
theorem tri_row {w : World} {g c : Nat} {ts : List Tri} (h : w.rowIs g 76 (c * 3) (trc ts)) (hc : ts.length ≤ c) : TriAt w w.heap.size (some ⟨g, 0, none⟩) ts.length ts := by
  refine ⟨rfl, fun _ => ⟨g, 0, rfl, h.lt, fun k t hk => ?_⟩⟩
  have hlt := (List.getElem?_eq_some_iff.1 hk).1
  obtain ⟨a0, a1, a2⟩ := trc_at hk
  rw [Nat.zero_add]
  exact ⟨by rw [h.cell (by omega), a0], by rw [h.cell (by omega), a1], by rw [h.cell (by omega), a2]⟩

/-! ### Systems in memory -/
def SysAt (w : World) (B : Nat) (v : Value) (x : Sysm) : Prop :=
  ∃ A1 n1 c1 A2 n2 c2, v = .agg #[.slice A1 n1 c1, .slice A2 n2 c2] ∧ BgsAt w B A1 n1 x.states ∧ TriAt w B A2 n2 x.steps
theorem SysAt.below {w w' : World} {B : Nat} {v : Value} {x : Sysm} (h : SysAt w B v x) (hb : Below B w w') : SysAt w' B v x := by
  obtain ⟨A1, n1, c1, A2, n2, c2, e, h1, h2⟩ := h
  exact ⟨_, _, _, _, _, _, e, h1.below hb, h2.below hb⟩
theorem SysAt.wide {w : World} {B B' : Nat} {v : Value} {x : Sysm} (h : SysAt w B v x) (hB : B ≤ B') : SysAt w B' v x := by
  obtain ⟨A1, n1, c1, A2, n2, c2, e, h1, h2⟩ := h
  exact ⟨_, _, _, _, _, _, e, h1.wide hB, h2.wide hB⟩
theorem SysAt.on {w w' : World} {v : Value} {x : Sysm} (h : SysAt w w.heap.size v x) (hb : Below w.heap.size w w') : SysAt w' w'.heap.size v x := (h.below hb).wide hb.size
def TriW (ts : List Tri) : Prop := ts.length ≤ maxLen ∧ ∀ t ∈ ts, (Lit.int .i64 t.1).wf = true ∧ (Lit.int .i64 t.2.1).wf = true ∧ (Lit.int .i64 t.2.2).wf = true
def SysW (x : Sysm) : Prop := BgsW x.states ∧ TriW x.steps
def sysWt (x : Sysm) : Nat := bgsWt x.states + x.steps.length
theorem bgs_big {bs : List Big} {b : Big} (h : bgsWt bs ≤ 1048576) (hb : b ∈ bs) : BigS b := by
  unfold bgsWt at h
  have := sumBy_mem bigWt hb
  exact bigS_of (by omega)
/-- a System in memory of its own: its rows, all from lo on -/
def SysOwn (w : World) (lo : Nat) (v : Value) (x : Sysm) : Prop :=
  ∃ g1 g2, v = .agg #[.slice (some ⟨g1, 0, none⟩) x.states.length x.states.length, .slice (some ⟨g2, 0, none⟩) x.steps.length x.steps.length] ∧ lo ≤ g1 ∧ g1 < g2 ∧ g2 < w.heap.size ∧
    (∃ (f : Nat → Value) (L : Nat → Nat), w.rowIs g1 116 (x.states.length * 6) f ∧ (∀ j, j ≤ x.states.length → g1 < L j ∧ L j ≤ g2) ∧ ∀ (j : Nat) b, j < x.states.length → x.states[j]? = some b → BigOwn w (L j) (L (j + 1)) (aggAt f j) b) ∧ w.rowIs g2 76 (x.steps.length * 3) (trc x.steps)
theorem SysOwn.at {w : World} {lo : Nat} {v : Value} {x : Sysm} (h : SysOwn w lo v x) : SysAt w w.heap.size v x := by
  obtain ⟨g1, g2, rfl, h1, h2, h3, ⟨f, L, hf, hL, hb⟩, hr⟩ := h
  have hk : BgsK w g1 x.states.length x.states.length x.states := ⟨f, L, hf, fun j hj => ⟨(hL j hj).1, by have := (hL j hj).2; omega⟩, hb⟩
  exact ⟨_, _, _, _, _, _, rfl, hk.at rfl (by omega), tri_row hr (Nat.le_refl _)⟩
theorem SysOwn.below {w w' : World} {lo : Nat} {v : Value} {x : Sysm} (h : SysOwn w lo v x) (hb : Below w.heap.size w w') : SysOwn w' lo v x := by
  obtain ⟨g1, g2, rfl, h1, h2, h3, ⟨f, L, hf, hL, hbb⟩, hr⟩ := h
  refine ⟨g1, g2, rfl, h1, h2, Nat.lt_of_lt_of_le h3 hb.size, ⟨f, L, hf.of_block (hb.block g1 (by omega)), hL, fun j b hj hjb => (hbb j b hj hjb).blocks (fun i _ hi => hb.block i (by have := (hL (j + 1) (by omega)).2; omega))⟩, hr.of_block (hb.block g2 h3)⟩

/-! ### opening -/
section
variable {H : Type} {enc : TypeId × Value → H} {P : Program} {W : World} {fuel : Nat}
/-- the parts of a struct, whatever its fields are -/
theorem struct_cuts {t : TypeId} {fs : Array Field} {cs : List Value} {x : DataW H × List MemPlace} (hs : P.underlying t = some (.struct fs))
    (h : DataW.trod enc P W 0 (fun _ => true) true fuel t cs = some x) : cs.length = P.cellsOf t ∧ ∃ m, ∀ (j : Nat) f, fs[j]? = some f → ∃ z, DataW.trod enc P W 0 (fun _ => true) true m f.type ((cs.drop f.offset).take (P.cellsOf f.type)) = some z ∧ ∀ p ∈ z.2, p ∈ x.2 := by
  obtain ⟨xs, m, _, hx, hlen, hxl, hf⟩ := DataW.trod_struct hs h
  refine ⟨hlen, m, fun j f hj => ?_⟩
  have hjl : j < fs.size := (Array.getElem?_eq_some_iff.1 hj).1
  have h1 := hf j f hj
  have hxj : xs[j]? = some (xs[j]'(by omega)) := List.getElem?_eq_getElem _
  refine ⟨_, h1.trans hxj, fun p hp => ?_⟩
  rw [hx]
  exact List.mem_flatMap.2 ⟨_, List.getElem_mem _, hp⟩
/-- the elements of an array -/
theorem array_cuts {t e : TypeId} {n : Nat} {cs : List Value} {x : DataW H × List MemPlace} (hs : P.underlying t = some (.array n e))
    (h : DataW.trod enc P W 0 (fun _ => true) true fuel t cs = some x) : cs.length = P.cellsOf t ∧ ∃ m, ∀ j, j < n → ∃ z, DataW.trod enc P W 0 (fun _ => true) true m e ((cs.drop (j * P.cellsOf e)).take (P.cellsOf e)) = some z ∧ ∀ p ∈ z.2, p ∈ x.2 := by
  obtain ⟨xs, m, _, hx, hlen, hxl, hf⟩ := DataW.trod_array hs h
  refine ⟨hlen, m, fun j hj => ?_⟩
  have h1 := hf j hj
  have hxj : xs[j]? = some (xs[j]'(by omega)) := List.getElem?_eq_getElem _
  refine ⟨_, h1.trans hxj, fun p hp => ?_⟩
  rw [hx]
  exact List.mem_flatMap.2 ⟨_, List.getElem_mem _, hp⟩
/-- a slice whose elements have more than one cell: each element's cells and their reading -/
theorem rows_cuts {t e : TypeId} {N : Nat} (ht : P.underlying t = some (.slice e)) (hC : P.cellsOf e = N) (hN : 0 < N) {v : Value} {y : DataW H × List MemPlace}
    (h : DataW.trod enc P W 0 (fun _ => true) true fuel t [v] = some y) (hlt : ∀ x ∈ y.2, x.block < W.heap.size) :
    ∃ A n c, v = .slice A n c ∧ n ≤ maxLen ∧ (0 < n → ∃ b off, A = some ⟨b, off, none⟩ ∧ b < W.heap.size ∧ ∀ i, i < n → ∃ m cs, cs.length = N ∧ (∀ (j : Nat) u, cs[j]? = some u → W.cell? ⟨b, off + i * N + j, none⟩ = some u) ∧
      ∃ z : DataW H × List MemPlace, DataW.trod enc P W 0 (fun _ => true) true m e cs = some z ∧ ∀ x ∈ z.2, x.block < W.heap.size) := by
  rcases open_slice ht h with ⟨hcs, _⟩ | ⟨a, len, cap, m, n, D, Pl, hcs, _, hl, hm, hmm, hx, hi⟩
  · simp at hcs
    exact ⟨none, 0, 0, hcs, by unfold maxLen; omega, fun h0 => absurd h0 (by omega)⟩
  · simp at hcs hmm
    rw [hC] at hi
    have hel : ∀ i, i < m → ∃ m' cs, cs.length = N ∧ (∀ (j : Nat) u, cs[j]? = some u → W.cell? (a.add (i * N + j)) = some u) ∧ ∃ z : DataW H × List MemPlace, DataW.trod enc P W 0 (fun _ => true) true m' e cs = some z ∧ ∀ p ∈ z.2, p ∈ Pl i := by
      intro i him
      obtain ⟨cs', hc, ht'⟩ := hi i him
      obtain ⟨_, hcl, hat⟩ := World.cells?_some hc
      have hlN : cs'.length = N := hcl
      refine ⟨_, cs', hlN, fun j u hu => ?_, _, ht', fun p hp => hp⟩
      rw [← hu, ← hat j (by have := (List.getElem?_eq_some_iff.1 hu).1; omega), Go.Deep.add_add]
    refine ⟨some a, len, cap, hcs, by omega, fun h0 => ?_⟩
    obtain ⟨m0, cs0, hl0, hf0, -⟩ := hel 0 (by omega)
    have hc0 := hf0 0 _ (List.getElem?_eq_getElem (by omega))
    obtain ⟨b, off, spot⟩ := a
    have hspot : spot = none := by simpa [Addr.add] using World.cell?_spot hc0
    subst hspot
    have hb : b < W.heap.size := by
      have := World.block_lt_of_cell? W _ hc0
      rw [opn.add_none] at this
      exact this
    refine ⟨b, off, rfl, hb, fun i hin => ?_⟩
    obtain ⟨m', cs, hl', hf, z, hz, hsub⟩ := hel i (by omega)
    refine ⟨m', cs, hl', fun j u hu => ?_, z, hz, fun x hxz => hlt x ?_⟩
    · rw [← hf j u hu, opn.add_none, Nat.add_assoc]
    · rw [hx]
      exact List.mem_append.2 (.inr (List.mem_flatMap.2 ⟨i, List.mem_range.2 (by omega), hsub x hxz⟩))
end
theorem cells6 : Try.prog.cellsOf 111 = 6 := by kernel_rfl
theorem cells3 : Try.prog.cellsOf 76 = 3 := by kernel_rfl
theorem cells2 : Try.prog.cellsOf 25 = 2 := by kernel_rfl
theorem cellsI : Try.prog.cellsOf 3 = 1 := by kernel_rfl
theorem cellsBs : Try.prog.cellsOf 22 = 1 := by kernel_rfl
theorem cellsTs : Try.prog.cellsOf 23 = 1 := by kernel_rfl
set_option maxRecDepth 100000 in
/-- six cells that are a Bigraph -/
theorem open_bigc {H : Type} {enc : TypeId × Value → H} {W : World} {fuel : Nat} {cs : List Value} {y : DataW H × List MemPlace}
    (hf : DataW.trod enc Try.prog W 0 (fun _ => true) true fuel 111 cs = some y) (hlt : ∀ x ∈ y.2, x.block < W.heap.size) : ∃ b, BigAt W W.heap.size (.agg cs.toArray) b ∧ BigW b := by
  obtain ⟨hl, m, hp⟩ := struct_parts (x := y) Try.underlying111 (by kernel_rfl) (by kernel_rfl) hf
  obtain ⟨u0, z0, e0, t0, l0⟩ := hp 0 _ rfl
  obtain ⟨u1, z1, e1, t1, l1⟩ := hp 1 _ rfl
  obtain ⟨u2, z2, e2, t2, l2⟩ := hp 2 _ rfl
  obtain ⟨u3, z3, e3, t3, l3⟩ := hp 3 _ rfl
  obtain ⟨u4, z4, e4, t4, l4⟩ := hp 4 _ rfl
  obtain ⟨u5, z5, e5, t5, l5⟩ := hp 5 _ rfl
  obtain ⟨r, x0, _, w0⟩ := DataW.trod_int Try.underlying3 t0
  obtain ⟨A1, n1, c1, ns, rfl, h1, b1, w1⟩ := nds_of Try.underlying107 Try.underlying157 (by kernel_rfl) (by kernel_rfl) Try.underlying3 Try.underlying3 rfl Try.underlying38 Try.underlying3 (by kernel_rfl) t1 (fun x hx => hlt x (l1 x hx))
  obtain ⟨A2, n2, c2, ss, rfl, h2, b2, w2⟩ := ints_of Try.underlying38 Try.underlying3 (by kernel_rfl) t2 (fun x hx => hlt x (l2 x hx))
  obtain ⟨g, x3, _, w3⟩ := DataW.trod_int Try.underlying3 t3
  obtain ⟨A4, n4, c4, os, rfl, h4, b4, w4⟩ := strs_of Try.underlying108 Try.underlying9 (by kernel_rfl) t4 (fun x hx => hlt x (l4 x hx))
  obtain ⟨A5, n5, c5, is, rfl, h5, b5, w5⟩ := wrs_of Try.underlying109 Try.underlying159 (by kernel_rfl) (by kernel_rfl) Try.underlying9 Try.underlying3 t5 (fun x hx => hlt x (l5 x hx))
  simp at x0 x3
  subst x0 x3
  have hcs : cs = [.int .i64 r, .slice A1 n1 c1, .slice A2 n2 c2, .int .i64 g, .slice A4 n4 c4, .slice A5 n5 c5] := by
    have hl' : cs.length = 6 := hl
    match cs, hl' with
    | [a, b, c, d, e, f], _ =>
      simp at e0 e1 e2 e3 e4 e5
      simp [e0, e1, e2, e3, e4, e5]
  subst hcs
  have q1 := h1.1
  have q2 := h2.len
  have q4 := h4.strlen
  have q5 := h5.1
  exact ⟨⟨r, ns, ss, g, os, is⟩, ⟨A1, n1, c1, A2, n2, c2, A4, n4, c4, A5, n5, c5, rfl, h1, h2, h4, h5⟩, w0, w3, by show ns.length ≤ _; omega, w1, by show ss.length ≤ _; omega, w2, by show os.length ≤ _; omega, w4, by show is.length ≤ _; omega, w5⟩
set_option maxRecDepth 100000 in
/-- three cells that are a triple -/
theorem open_tric {H : Type} {enc : TypeId × Value → H} {W : World} {fuel : Nat} {cs : List Value} {y : DataW H × List MemPlace}
    (hf : DataW.trod enc Try.prog W 0 (fun _ => true) true fuel 76 cs = some y) : ∃ t : Tri, cs = [.int .i64 t.1, .int .i64 t.2.1, .int .i64 t.2.2] ∧ (Lit.int .i64 t.1).wf = true ∧ (Lit.int .i64 t.2.1).wf = true ∧ (Lit.int .i64 t.2.2).wf = true := by
  obtain ⟨hl, m, hp⟩ := array_cuts (x := y) Try.underlying76 hf
  rw [cells3] at hl
  obtain ⟨z0, t0, -⟩ := hp 0 (by decide)
  obtain ⟨z1, t1, -⟩ := hp 1 (by decide)
  obtain ⟨z2, t2, -⟩ := hp 2 (by decide)
  rw [cellsI] at t0 t1 t2
  match cs, hl with
  | [a0, a1, a2], _ =>
    simp only [List.drop, List.take, Nat.zero_mul, Nat.one_mul, Nat.mul_one] at t0 t1 t2
    obtain ⟨q0, x0, _, w0⟩ := DataW.trod_int Try.underlying3 t0
    obtain ⟨q1, x1, _, w1⟩ := DataW.trod_int Try.underlying3 t1
    obtain ⟨q2, x2, _, w2⟩ := DataW.trod_int Try.underlying3 t2
    simp at x0 x1 x2
    subst x0 x1 x2
    exact ⟨(q0, q1, q2), rfl, w0, w1, w2⟩
set_option maxRecDepth 100000 in
theorem open_trisc {H : Type} {enc : TypeId × Value → H} {W : World} {fuel : Nat} {v : Value} {y : DataW H × List MemPlace}
    (h : DataW.trod enc Try.prog W 0 (fun _ => true) true fuel 23 [v] = some y) (hlt : ∀ x ∈ y.2, x.block < W.heap.size) : ∃ A n c ts, v = .slice A n c ∧ TriAt W W.heap.size A n ts ∧ TriW ts := by
  obtain ⟨A, n, c, rfl, hn, hr⟩ := rows_cuts Try.underlying23 cells3 (by decide) h hlt
  by_cases hz : 0 < n
  · obtain ⟨b, off, rfl, hb, hi⟩ := hr hz
    obtain ⟨gs, hl, hgs⟩ := list_of (α := Tri) (n := n) (Q := fun k t => (W.cell? ⟨b, off + k * 3, none⟩ = some (.int .i64 t.1) ∧ W.cell? ⟨b, off + k * 3 + 1, none⟩ = some (.int .i64 t.2.1) ∧ W.cell? ⟨b, off + k * 3 + 2, none⟩ = some (.int .i64 t.2.2)) ∧ (Lit.int .i64 t.1).wf = true ∧ (Lit.int .i64 t.2.1).wf = true ∧ (Lit.int .i64 t.2.2).wf = true) (fun i hin => by
      obtain ⟨m, cs, hcl, hat, z, hz2, hzl⟩ := hi i hin
      obtain ⟨x, rfl, hw⟩ := open_tric hz2
      exact ⟨x, ⟨hat 0 _ rfl, hat 1 _ rfl, hat 2 _ rfl⟩, hw⟩)
    refine ⟨_, n, c, gs, rfl, ⟨hl, fun _ => ⟨b, off, rfl, hb, fun k x hk => (hgs k x hk).1⟩⟩, by omega, fun x hx => ?_⟩
    obtain ⟨k, hk⟩ := List.getElem?_of_mem hx
    exact (hgs k x hk).2
  · have : n = 0 := by omega
    subst this
    exact ⟨A, 0, c, [], rfl, ⟨rfl, fun h => absurd h (by omega)⟩, by simp [maxLen], by simp⟩
set_option maxRecDepth 100000 in
theorem open_bgsc {H : Type} {enc : TypeId × Value → H} {W : World} {fuel : Nat} {v : Value} {y : DataW H × List MemPlace}
    (h : DataW.trod enc Try.prog W 0 (fun _ => true) true fuel 22 [v] = some y) (hlt : ∀ x ∈ y.2, x.block < W.heap.size) : ∃ A n c bs, v = .slice A n c ∧ BgsAt W W.heap.size A n bs ∧ BgsW bs := by
  obtain ⟨A, n, c, rfl, hn, hr⟩ := rows_cuts Try.underlying22 cells6 (by decide) h hlt
  by_cases hz : 0 < n
  · obtain ⟨b, off, rfl, hb, hi⟩ := hr hz
    obtain ⟨gs, hl, hgs⟩ := list_of (α := Big) (n := n) (Q := fun k x => (∃ v0 v1 v2 v3 v4 v5, W.cell? ⟨b, off + k * 6, none⟩ = some v0 ∧ W.cell? ⟨b, off + k * 6 + 1, none⟩ = some v1 ∧ W.cell? ⟨b, off + k * 6 + 2, none⟩ = some v2 ∧ W.cell? ⟨b, off + k * 6 + 3, none⟩ = some v3 ∧ W.cell? ⟨b, off + k * 6 + 4, none⟩ = some v4 ∧ W.cell? ⟨b, off + k * 6 + 5, none⟩ = some v5 ∧ BigAt W W.heap.size (.agg #[v0, v1, v2, v3, v4, v5]) x) ∧ BigW x) (fun i hin => by
      obtain ⟨m, cs, hcl, hat, z, hz2, hzl⟩ := hi i hin
      obtain ⟨x, hx, hw⟩ := open_bigc hz2 hzl
      match cs, hcl with
      | [a0, a1, a2, a3, a4, a5], _ =>
        exact ⟨x, ⟨a0, a1, a2, a3, a4, a5, hat 0 _ rfl, hat 1 _ rfl, hat 2 _ rfl, hat 3 _ rfl, hat 4 _ rfl, hat 5 _ rfl, by simpa using hx⟩, hw⟩)
    refine ⟨_, n, c, gs, rfl, ⟨hl, fun _ => ⟨b, off, rfl, hb, fun k x hk => (hgs k x hk).1⟩⟩, by omega, fun x hx => ?_⟩
    obtain ⟨k, hk⟩ := List.getElem?_of_mem hx
    exact (hgs k x hk).2
  · have : n = 0 := by omega
    subst this
    exact ⟨A, 0, c, [], rfl, ⟨rfl, fun h => absurd h (by omega)⟩, by simp [maxLen], by simp⟩
set_option maxRecDepth 100000 in
/-- an argument that is a list of triples -/
theorem open_tris {H : Type} {enc : TypeId × Value → H} {W : World} {base : Nat} {v : Value} {d : DataW H} {p : List MemPlace} (hv : Value.okWide Try.prog W .any base 23 v)
    (h : DataW.Trod enc Try.prog W 0 (fun _ => true) true 23 v d p) (hlt : ∀ x ∈ p, x.block < W.heap.size) : ∃ A n c ts, v = .slice A n c ∧ TriAt W W.heap.size A n ts ∧ TriW ts := by
  obtain ⟨A, n, c, rfl⟩ := okWide_slice Try.underlying23 hv
  obtain ⟨fuel, hf⟩ := h
  exact open_trisc (y := (d, p)) (by simpa [Value.cells] using hf) hlt
set_option maxRecDepth 100000 in
/-- an argument that is a System -/
theorem open_sys {H : Type} {enc : TypeId × Value → H} {W : World} {base : Nat} {v : Value} {d : DataW H} {p : List MemPlace} (hv : Value.okWide Try.prog W .any base 25 v)
    (h : DataW.Trod enc Try.prog W 0 (fun _ => true) true 25 v d p) (hlt : ∀ x ∈ p, x.block < W.heap.size) : ∃ x, SysAt W W.heap.size v x ∧ SysW x := by
  obtain ⟨⟨cs⟩, rfl, _⟩ := okWide_struct Try.underlying25 hv
  obtain ⟨fuel, hf⟩ := h
  replace hf : DataW.trod enc Try.prog W 0 (fun _ => true) true fuel 25 cs = some (d, p) := by simpa [Value.cells] using hf
  obtain ⟨hl, m, hp⟩ := struct_cuts (x := (d, p)) Try.underlying25 hf
  rw [cells2] at hl
  obtain ⟨z0, t0, l0⟩ := hp 0 _ rfl
  obtain ⟨z1, t1, l1⟩ := hp 1 _ rfl
  replace t0 : DataW.trod enc Try.prog W 0 (fun _ => true) true m 22 ((cs.drop 0).take (Try.prog.cellsOf 22)) = some z0 := t0
  replace t1 : DataW.trod enc Try.prog W 0 (fun _ => true) true m 23 ((cs.drop 1).take (Try.prog.cellsOf 23)) = some z1 := t1
  rw [cellsBs] at t0
  rw [cellsTs] at t1
  match cs, hl with
  | [a0, a1], _ =>
    simp only [List.drop, List.take] at t0 t1
    obtain ⟨A, n, c, bs, rfl, h0, w0⟩ := open_bgsc t0 (fun x hx => hlt x (l0 x hx))
    obtain ⟨A', n', c', ts, rfl, h1, w1⟩ := open_trisc t1 (fun x hx => hlt x (l1 x hx))
    exact ⟨⟨bs, ts⟩, ⟨A, n, c, A', n', c', rfl, h0, h1⟩, w0, w1⟩
end Go.Proofs.Ytlpgldejmdiceaa.sya
