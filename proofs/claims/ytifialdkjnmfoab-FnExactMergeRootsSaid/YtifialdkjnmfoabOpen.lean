/- Arguments that are signatures and Bigraphs: what the walk wants of them. -/
import Derived.Test.YtifialdkjnmfoabBig
import Derived.Deep.Slices
import Derived.Deep.Fields
import Derived.ChangeSame
import Derived.Lib.SmallJoins
namespace Go.Proofs.Ytifialdkjnmfoab.opn
open kit bg
open Go.ChangeShapes Go.WideShapes Go.ChangeAt Go.RowKit Go.Deep Go.Joins

theorem list_of {α : Type} {Q : Nat → α → Prop} : ∀ {n : Nat}, (∀ i, i < n → ∃ x, Q i x) → ∃ xs : List α, xs.length = n ∧ ∀ (k : Nat) x, xs[k]? = some x → Q k x := by
  intro n
  induction n with
  | zero => intro _; exact ⟨[], rfl, by simp⟩
  | succ n ih =>
    intro h
    obtain ⟨xs, hl, hx⟩ := ih (fun i hi => h i (by omega))
    obtain ⟨x, hq⟩ := h n (by omega)
    refine ⟨xs ++ [x], by simp [hl], fun k y hy => ?_⟩
    by_cases hk : k < n
    · rw [List.getElem?_append_left (by omega)] at hy
      exact hx k y hy
    · have hkn : k = n := by
        have := (List.getElem?_eq_some_iff.1 hy).1
        simp [hl] at this
        omega
      subst hkn
      rw [List.getElem?_append_right (by omega)] at hy
      simp [hl] at hy
      subst hy
      exact hq

def NdW (x : Nd) : Prop := (Lit.int .i64 x.control).wf = true ∧ (Lit.int .i64 x.parent).wf = true ∧ x.links.length ≤ maxLen ∧ ∀ z ∈ x.links, (Lit.int .i64 z).wf = true
def CtlW (x : Ctl) : Prop := x.name.size ≤ maxLen ∧ (Lit.int .i64 x.ports).wf = true ∧ (Lit.int .i64 x.kind).wf = true
def WrW (x : Wr) : Prop := x.name.size ≤ maxLen ∧ (Lit.int .i64 x.link).wf = true
def CtlsW (cs : List Ctl) : Prop := cs.length ≤ maxLen ∧ ∀ c ∈ cs, CtlW c
def BigW (b : Big) : Prop := (Lit.int .i64 b.roots).wf = true ∧ (Lit.int .i64 b.edges).wf = true ∧ b.nodes.length ≤ maxLen ∧ (∀ x ∈ b.nodes, NdW x) ∧ b.sites.length ≤ maxLen ∧ (∀ z ∈ b.sites, (Lit.int .i64 z).wf = true) ∧
  b.outer.length ≤ maxLen ∧ (∀ s ∈ b.outer, s.size ≤ maxLen) ∧ b.inner.length ≤ maxLen ∧ ∀ x ∈ b.inner, WrW x

section
variable {H : Type} {enc : TypeId × Value → H} {P : Program} {W : World} {fuel : Nat}

theorem ints_of {t e : TypeId} (ht : P.underlying t = some (.slice e)) (he : P.underlying e = some (.int .i64)) (hc : P.cellsOf e = 1) {v : Value} {y : DataW H × List MemPlace}
    (h : DataW.trod enc P W 0 (fun _ => true) true fuel t [v] = some y) (hlt : ∀ x ∈ y.2, x.block < W.heap.size) : ∃ A n c zs, v = .slice A n c ∧ IntsAt W W.heap.size A n zs ∧ n ≤ maxLen ∧ ∀ z ∈ zs, (Lit.int .i64 z).wf = true := by
  have hv : ∃ A n c, v = .slice A n c := by
    rcases open_ints ht he hc h with ⟨hcs, _⟩ | ⟨a, l, c', zs, hcs, _⟩
    · simp at hcs; exact ⟨_, _, _, hcs⟩
    · simp at hcs; exact ⟨_, _, _, hcs⟩
  obtain ⟨A, n, c, rfl⟩ := hv
  obtain ⟨d, p⟩ := y
  obtain ⟨zs, h1, h2, h3⟩ := sr_ints (a0 := A) (n := n) (c := c) ht he hc ⟨fuel, by simpa [Value.cells] using h⟩ hlt
  exact ⟨A, n, c, zs, rfl, h1, h2, h3⟩
theorem strs_of {t e : TypeId} (ht : P.underlying t = some (.slice e)) (he : P.underlying e = some .string) (hc : P.cellsOf e = 1) {v : Value} {y : DataW H × List MemPlace}
    (h : DataW.trod enc P W 0 (fun _ => true) true fuel t [v] = some y) (hlt : ∀ x ∈ y.2, x.block < W.heap.size) : ∃ A n c, ∃ ss : List ByteArray, v = .slice A n c ∧ SR W W.heap.size A n (ss.map Value.string) ∧ n ≤ maxLen ∧ ∀ s ∈ ss, s.size ≤ maxLen := by
  have hv : ∃ A n c, v = .slice A n c := by
    rcases open_strings ht he hc h with ⟨hcs, _⟩ | ⟨a, l, c', zs, hcs, _⟩
    · simp at hcs; exact ⟨_, _, _, hcs⟩
    · simp at hcs; exact ⟨_, _, _, hcs⟩
  obtain ⟨A, n, c, rfl⟩ := hv
  obtain ⟨d, p⟩ := y
  obtain ⟨zs, h1, h2, h3⟩ := sr_strings (a0 := A) (n := n) (c := c) ht he hc ⟨fuel, by simpa [Value.cells] using h⟩ hlt
  exact ⟨A, n, c, zs, rfl, h1, h2, h3⟩

theorem add_none (b off k : Nat) : Addr.add ⟨b, off, none⟩ k = ⟨b, off + k, none⟩ := Go.WideShapes.add_plain b off k

/-- the parts of a struct of one-cell fields -/
theorem struct_parts {t : TypeId} {fs : Array Field} {cs : List Value} {x : DataW H × List MemPlace} (hs : P.underlying t = some (.struct fs)) (hone : oneCellFields P fs = true) (hC : P.cellsOf t = fs.size)
    (h : DataW.trod enc P W 0 (fun _ => true) true fuel t cs = some x) : cs.length = fs.size ∧ ∃ m, ∀ (j : Nat) f, fs[j]? = some f → ∃ u z, cs[j]? = some u ∧ DataW.trod enc P W 0 (fun _ => true) true m f.type [u] = some z ∧ ∀ p ∈ z.2, p ∈ x.2 := by
  obtain ⟨xs, m, _, hx, hlen, hxl, hf⟩ := DataW.trod_struct hs h
  have hl : cs.length = fs.size := hlen.trans hC
  refine ⟨hl, m, fun j f hj => ?_⟩
  have hjl : j < cs.length := by rw [hl]; exact (Array.getElem?_eq_some_iff.1 hj).1
  obtain ⟨ho, hk⟩ := hone_of hone j f hj
  have h1 := hf j f hj
  have hd : (cs.drop f.offset).take (P.cellsOf f.type) = [cs[j]] := by
    rw [ho, hk, List.drop_eq_getElem_cons hjl]; rfl
  rw [hd] at h1
  have hxj : xs[j]? = some (xs[j]'(by omega)) := List.getElem?_eq_getElem _
  refine ⟨_, _, List.getElem?_eq_getElem hjl, h1.trans hxj, fun p hp => ?_⟩
  rw [hx]
  exact List.mem_flatMap.2 ⟨_, List.getElem_mem _, hp⟩

/-- a slice of structs of one-cell fields: each element's cells and their reading -/
theorem rows_of {t e : TypeId} {fs : Array Field} (ht : P.underlying t = some (.slice e)) (he : P.underlying e = some (.struct fs)) (hone : oneCellFields P fs = true) (hC : P.cellsOf e = fs.size) (hfs : 0 < fs.size) {v : Value} {y : DataW H × List MemPlace}
    (h : DataW.trod enc P W 0 (fun _ => true) true fuel t [v] = some y) (hlt : ∀ x ∈ y.2, x.block < W.heap.size) :
    ∃ A n c, v = .slice A n c ∧ n ≤ maxLen ∧ (0 < n → ∃ b off, A = some ⟨b, off, none⟩ ∧ b < W.heap.size ∧ ∀ i, i < n → ∃ m, ∀ (j : Nat) f, fs[j]? = some f →
      ∃ (u : Value) (z : DataW H × List MemPlace), W.cell? ⟨b, off + i * fs.size + j, none⟩ = some u ∧ DataW.trod enc P W 0 (fun _ => true) true m f.type [u] = some z ∧ ∀ x ∈ z.2, x.block < W.heap.size) := by
  rcases open_slice ht h with ⟨hcs, _⟩ | ⟨a, len, cap, m, n, D, Pl, hcs, _, hl, hm, hmm, hx, hi⟩
  · simp at hcs
    exact ⟨none, 0, 0, hcs, by unfold maxLen; omega, fun h0 => absurd h0 (by omega)⟩
  · simp at hcs hmm
    rw [hC] at hi
    have hel : ∀ i, i < m → ∃ m', ∀ (j : Nat) f, fs[j]? = some f → ∃ u z, W.cell? (a.add (i * fs.size + j)) = some u ∧ DataW.trod enc P W 0 (fun _ => true) true m' f.type [u] = some z ∧ ∀ p ∈ z.2, p ∈ Pl i := by
      intro i him
      obtain ⟨cs', hc, ht'⟩ := hi i him
      obtain ⟨_, hcl, hat⟩ := World.cells?_some hc
      obtain ⟨_, m', hp⟩ := struct_parts he hone hC ht'
      refine ⟨m', fun j f hj => ?_⟩
      obtain ⟨u, z, hu, hz, hsub⟩ := hp j f hj
      refine ⟨u, z, ?_, hz, hsub⟩
      rw [← hu, ← hat j (Array.getElem?_eq_some_iff.1 hj).1, Go.Deep.add_add]
    refine ⟨some a, len, cap, hcs, by omega, fun h0 => ?_⟩
    obtain ⟨m0, hf0⟩ := hel 0 (by omega)
    obtain ⟨u0, z0, hc0, _⟩ := hf0 0 _ (Array.getElem?_eq_getElem hfs)
    obtain ⟨b, off, spot⟩ := a
    have hspot : spot = none := by simpa [Addr.add] using World.cell?_spot hc0
    subst hspot
    have hb : b < W.heap.size := by
      have := World.block_lt_of_cell? W _ hc0
      rw [add_none] at this
      exact this
    refine ⟨b, off, rfl, hb, fun i hin => ?_⟩
    obtain ⟨m', hf⟩ := hel i (by omega)
    refine ⟨m', fun j f hj => ?_⟩
    obtain ⟨u, z, hcell, htr, hsub⟩ := hf j f hj
    refine ⟨u, z, ?_, htr, fun x hxz => hlt x ?_⟩
    · rw [← hcell, add_none, Nat.add_assoc]
    · rw [hx]
      exact List.mem_append.2 (.inr (List.mem_flatMap.2 ⟨i, List.mem_range.2 (by omega), hsub x hxz⟩))

theorem ctls_of {t e : TypeId} {f0 f1 f2 : Field} (ht : P.underlying t = some (.slice e)) (he : P.underlying e = some (.struct #[f0, f1, f2])) (hone : oneCellFields P #[f0, f1, f2] = true) (hC : P.cellsOf e = 3)
    (h0 : P.underlying f0.type = some .string) (h1 : P.underlying f1.type = some (.int .i64)) (h2 : P.underlying f2.type = some (.int .i64)) {v : Value} {y : DataW H × List MemPlace}
    (h : DataW.trod enc P W 0 (fun _ => true) true fuel t [v] = some y) (hlt : ∀ x ∈ y.2, x.block < W.heap.size) :
    ∃ A n c cs, v = .slice A n c ∧ CtlsAt W W.heap.size A n cs ∧ CtlsW cs := by
  obtain ⟨A, n, c, rfl, hn, hr⟩ := rows_of ht he hone hC (by simp) h hlt
  by_cases hz : 0 < n
  · obtain ⟨b, off, rfl, hb, hi⟩ := hr hz
    obtain ⟨cs, hl, hcs⟩ := list_of (α := Ctl) (n := n) (Q := fun k c => (W.cell? ⟨b, off + k * 3, none⟩ = some (.string c.name) ∧ W.cell? ⟨b, off + k * 3 + 1, none⟩ = some (.int .i64 c.ports) ∧ W.cell? ⟨b, off + k * 3 + 2, none⟩ = some (.int .i64 c.kind)) ∧ CtlW c) (fun i hin => by
      obtain ⟨m, hf⟩ := hi i hin
      obtain ⟨u0, z0, c0, t0, _⟩ := hf 0 f0 rfl
      obtain ⟨u1, z1, c1, t1, _⟩ := hf 1 f1 rfl
      obtain ⟨u2, z2, c2, t2, _⟩ := hf 2 f2 rfl
      obtain ⟨s, e0, _, w0⟩ := DataW.trod_string h0 t0
      obtain ⟨p, e1, _, w1⟩ := DataW.trod_int h1 t1
      obtain ⟨q, e2, _, w2⟩ := DataW.trod_int h2 t2
      simp at e0 e1 e2
      subst e0 e1 e2
      exact ⟨⟨s, p, q⟩, ⟨c0, c1, c2⟩, w0, w1, w2⟩)
    refine ⟨_, n, c, cs, rfl, ⟨hl, fun _ => ⟨b, off, rfl, hb, fun k c hk => (hcs k c hk).1⟩⟩, by omega, fun c hc => ?_⟩
    obtain ⟨k, hk⟩ := List.getElem?_of_mem hc
    exact (hcs k c hk).2
  · have : n = 0 := by omega
    subst this
    exact ⟨A, 0, c, [], rfl, ⟨rfl, fun h => absurd h (by omega)⟩, by simp [maxLen], by simp⟩

theorem wrs_of {t e : TypeId} {f0 f1 : Field} (ht : P.underlying t = some (.slice e)) (he : P.underlying e = some (.struct #[f0, f1])) (hone : oneCellFields P #[f0, f1] = true) (hC : P.cellsOf e = 2)
    (h0 : P.underlying f0.type = some .string) (h1 : P.underlying f1.type = some (.int .i64)) {v : Value} {y : DataW H × List MemPlace}
    (h : DataW.trod enc P W 0 (fun _ => true) true fuel t [v] = some y) (hlt : ∀ x ∈ y.2, x.block < W.heap.size) :
    ∃ A n c cs, v = .slice A n c ∧ WrsAt W W.heap.size A n cs ∧ n ≤ maxLen ∧ ∀ x ∈ cs, WrW x := by
  obtain ⟨A, n, c, rfl, hn, hr⟩ := rows_of ht he hone hC (by simp) h hlt
  by_cases hz : 0 < n
  · obtain ⟨b, off, rfl, hb, hi⟩ := hr hz
    obtain ⟨cs, hl, hcs⟩ := list_of (α := Wr) (n := n) (Q := fun k c => (W.cell? ⟨b, off + k * 2, none⟩ = some (.string c.name) ∧ W.cell? ⟨b, off + k * 2 + 1, none⟩ = some (.int .i64 c.link)) ∧ WrW c) (fun i hin => by
      obtain ⟨m, hf⟩ := hi i hin
      obtain ⟨u0, z0, c0, t0, _⟩ := hf 0 f0 rfl
      obtain ⟨u1, z1, c1, t1, _⟩ := hf 1 f1 rfl
      obtain ⟨s, e0, _, w0⟩ := DataW.trod_string h0 t0
      obtain ⟨p, e1, _, w1⟩ := DataW.trod_int h1 t1
      simp at e0 e1
      subst e0 e1
      exact ⟨⟨s, p⟩, ⟨c0, c1⟩, w0, w1⟩)
    refine ⟨_, n, c, cs, rfl, ⟨hl, fun _ => ⟨b, off, rfl, hb, fun k c hk => (hcs k c hk).1⟩⟩, hn, fun c hc => ?_⟩
    obtain ⟨k, hk⟩ := List.getElem?_of_mem hc
    exact (hcs k c hk).2
  · have : n = 0 := by omega
    subst this
    exact ⟨A, 0, c, [], rfl, ⟨rfl, fun h => absurd h (by omega)⟩, hn, by simp⟩

theorem nds_of {t e tl el : TypeId} {f0 f1 f2 : Field} (ht : P.underlying t = some (.slice e)) (he : P.underlying e = some (.struct #[f0, f1, f2])) (hone : oneCellFields P #[f0, f1, f2] = true) (hC : P.cellsOf e = 3)
    (h0 : P.underlying f0.type = some (.int .i64)) (h1 : P.underlying f1.type = some (.int .i64)) (h2 : f2.type = tl) (h3 : P.underlying tl = some (.slice el)) (h4 : P.underlying el = some (.int .i64)) (h5 : P.cellsOf el = 1) {v : Value} {y : DataW H × List MemPlace}
    (h : DataW.trod enc P W 0 (fun _ => true) true fuel t [v] = some y) (hlt : ∀ x ∈ y.2, x.block < W.heap.size) :
    ∃ A n c cs, v = .slice A n c ∧ NdsAt W W.heap.size A n cs ∧ n ≤ maxLen ∧ ∀ x ∈ cs, NdW x := by
  obtain ⟨A, n, c, rfl, hn, hr⟩ := rows_of ht he hone hC (by simp) h hlt
  by_cases hz : 0 < n
  · obtain ⟨b, off, rfl, hb, hi⟩ := hr hz
    obtain ⟨cs, hl, hcs⟩ := list_of (α := Nd) (n := n) (Q := fun k x => (W.cell? ⟨b, off + k * 3, none⟩ = some (.int .i64 x.control) ∧ W.cell? ⟨b, off + k * 3 + 1, none⟩ = some (.int .i64 x.parent) ∧
        ∃ A' n' c', W.cell? ⟨b, off + k * 3 + 2, none⟩ = some (.slice A' n' c') ∧ IntsAt W W.heap.size A' n' x.links) ∧ NdW x) (fun i hin => by
      obtain ⟨m, hf⟩ := hi i hin
      obtain ⟨u0, z0, c0, t0, _⟩ := hf 0 f0 rfl
      obtain ⟨u1, z1, c1, t1, _⟩ := hf 1 f1 rfl
      obtain ⟨u2, z2, c2, t2, l2⟩ := hf 2 f2 rfl
      obtain ⟨p, e0, _, w0⟩ := DataW.trod_int h0 t0
      obtain ⟨q, e1, _, w1⟩ := DataW.trod_int h1 t1
      rw [h2] at t2
      obtain ⟨A', n', c', zs, rfl, hz, hn', hw⟩ := ints_of h3 h4 h5 t2 l2
      simp at e0 e1
      subst e0 e1
      exact ⟨⟨p, q, zs⟩, ⟨c0, c1, A', n', c', c2, hz⟩, w0, w1, by have := hz.len; show zs.length ≤ _; omega, hw⟩)
    refine ⟨_, n, c, cs, rfl, ⟨hl, fun _ => ⟨b, off, rfl, hb, fun k c hk => (hcs k c hk).1⟩⟩, hn, fun c hc => ?_⟩
    obtain ⟨k, hk⟩ := List.getElem?_of_mem hc
    exact (hcs k c hk).2
  · have : n = 0 := by omega
    subst this
    exact ⟨A, 0, c, [], rfl, ⟨rfl, fun h => absurd h (by omega)⟩, hn, by simp⟩
end

set_option maxRecDepth 100000 in
/-- an argument that is a signature -/
theorem open_sig {H : Type} {enc : TypeId × Value → H} {W : World} {base : Nat} {v : Value} {d : DataW H} {p : List MemPlace} (_hv : Value.okWide Try.prog W .any base 22 v)
    (h : DataW.Trod enc Try.prog W 0 (fun _ => true) true 22 v d p) (hlt : ∀ x ∈ p, x.block < W.heap.size) : ∃ A n c cs, v = .slice A n c ∧ CtlsAt W W.heap.size A n cs ∧ CtlsW cs := by
  obtain ⟨A, n, c, rfl⟩ := okWide_slice Try.underlying22 _hv
  obtain ⟨fuel, hf⟩ := h
  obtain ⟨A', n', c', cs, e, h1, h2⟩ := ctls_of (y := (d, p)) Try.underlying22 Try.underlying52 (by kernel_rfl) (by kernel_rfl) (by kernel_rfl) (by kernel_rfl) (by kernel_rfl) (by simpa [Value.cells] using hf) hlt
  cases e
  exact ⟨A, n, c, cs, rfl, h1, h2⟩

set_option maxRecDepth 100000 in
/-- an argument that is a Bigraph -/
theorem open_big {H : Type} {enc : TypeId × Value → H} {W : World} {base : Nat} {v : Value} {d : DataW H} {p : List MemPlace} (hv : Value.okWide Try.prog W .any base 28 v)
    (h : DataW.Trod enc Try.prog W 0 (fun _ => true) true 28 v d p) (hlt : ∀ x ∈ p, x.block < W.heap.size) : ∃ b, BigAt W W.heap.size v b ∧ BigW b := by
  obtain ⟨cs, rfl, _⟩ := okWide_struct Try.underlying28 hv
  obtain ⟨fuel, hf⟩ := h
  obtain ⟨hl, m, hp⟩ := struct_parts (x := (d, p)) Try.underlying28 (by kernel_rfl) (by kernel_rfl) hf
  obtain ⟨u0, z0, e0, t0, l0⟩ := hp 0 _ rfl
  obtain ⟨u1, z1, e1, t1, l1⟩ := hp 1 _ rfl
  obtain ⟨u2, z2, e2, t2, l2⟩ := hp 2 _ rfl
  obtain ⟨u3, z3, e3, t3, l3⟩ := hp 3 _ rfl
  obtain ⟨u4, z4, e4, t4, l4⟩ := hp 4 _ rfl
  obtain ⟨u5, z5, e5, t5, l5⟩ := hp 5 _ rfl
  obtain ⟨r, x0, _, w0⟩ := DataW.trod_int Try.underlying3 t0
  obtain ⟨A1, n1, c1, ns, rfl, h1, b1, w1⟩ := nds_of Try.underlying23 Try.underlying94 (by kernel_rfl) (by kernel_rfl) Try.underlying3 Try.underlying3 rfl Try.underlying24 Try.underlying3 (by kernel_rfl) t1 (fun x hx => hlt x (l1 x hx))
  obtain ⟨A2, n2, c2, ss, rfl, h2, b2, w2⟩ := ints_of Try.underlying24 Try.underlying3 (by kernel_rfl) t2 (fun x hx => hlt x (l2 x hx))
  obtain ⟨g, x3, _, w3⟩ := DataW.trod_int Try.underlying3 t3
  obtain ⟨A4, n4, c4, os, rfl, h4, b4, w4⟩ := strs_of Try.underlying25 Try.underlying9 (by kernel_rfl) t4 (fun x hx => hlt x (l4 x hx))
  obtain ⟨A5, n5, c5, is, rfl, h5, b5, w5⟩ := wrs_of Try.underlying26 Try.underlying96 (by kernel_rfl) (by kernel_rfl) Try.underlying9 Try.underlying3 t5 (fun x hx => hlt x (l5 x hx))
  simp at x0 x3
  subst x0 x3
  have hcs : cs = #[.int .i64 r, .slice A1 n1 c1, .slice A2 n2 c2, .int .i64 g, .slice A4 n4 c4, .slice A5 n5 c5] := by
    obtain ⟨l⟩ := cs
    have hl' : l.length = 6 := by simpa [Value.cells] using hl
    match l, hl' with
    | [a, b, c, d, e, f], _ =>
      simp [Value.cells] at e0 e1 e2 e3 e4 e5
      simp [e0, e1, e2, e3, e4, e5]
  subst hcs
  have q1 := h1.1
  have q2 := h2.len
  have q4 := h4.strlen
  have q5 := h5.1
  exact ⟨⟨r, ns, ss, g, os, is⟩, ⟨A1, n1, c1, A2, n2, c2, A4, n4, c4, A5, n5, c5, rfl, h1, h2, h4, h5⟩, w0, w3, by show ns.length ≤ _; omega, w1, by show ss.length ≤ _; omega, w2, by show os.length ≤ _; omega, w4, by show is.length ≤ _; omega, w5⟩
end Go.Proofs.Ytifialdkjnmfoab.opn
