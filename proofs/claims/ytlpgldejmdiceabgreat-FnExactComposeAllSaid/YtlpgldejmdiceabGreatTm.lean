/- Bigraphs within bounds: what is made out of valid ones stays small enough to be looked at. -/
import Derived.Test.YtlpgldejmdiceabGreatQd
namespace Go.Proofs.YtlpgldejmdiceabGreat.tm
open kit bg sg opn strs only hb sig isig un over gn nm inn ht gd im pt marks eqs hc hi hw hn rs br bm bw cf lf ib isa lawb lw cl tp pm
open Go.RowKit
set_option linter.unusedVariables false
structure Tame (b : Big) : Prop where
  r : -1000 ≤ b.roots ∧ b.roots ≤ 1000
  e : -1000 ≤ b.edges ∧ b.edges ≤ 1000
  n : b.nodes.length ≤ 1000
  nd : ∀ x ∈ b.nodes, (-1000 ≤ x.control ∧ x.control ≤ 1000) ∧ (-1000 ≤ x.parent ∧ x.parent ≤ 1000) ∧ x.links.length ≤ 1000 ∧ ∀ l ∈ x.links, -1000 ≤ l ∧ l ≤ 1000
  s : b.sites.length ≤ 1000
  st : ∀ z ∈ b.sites, -1000 ≤ z ∧ z ≤ 1000
  o : b.outer.length ≤ 1000
  on : ∀ s ∈ b.outer, s.size ≤ 1048576
  i : b.inner.length ≤ 1000
  iw : ∀ x ∈ b.inner, x.name.size ≤ 1048576 ∧ -1000 ≤ x.link ∧ x.link ≤ 1000
theorem Tame.S {b : Big} (h : Tame b) : BigS b :=
  ⟨by have := h.n; omega, fun x hx => by have := (h.nd x hx).2.2.1; omega, by have := h.s; omega, by have := h.o; omega, h.on, by have := h.i; omega, fun x hx => (h.iw x hx).1⟩
theorem wf_k {z : Int} (h : -1000 ≤ z ∧ z ≤ 1000) : (Lit.int .i64 z).wf = true := Go.WalkArith.wf_i64 (by omega)
theorem Tame.W {b : Big} (h : Tame b) : BigW b :=
  ⟨wf_k h.r, wf_k h.e, by have := h.n; unfold maxLen; omega, fun x hx => ⟨wf_k (h.nd x hx).1, wf_k (h.nd x hx).2.1, by have := (h.nd x hx).2.2.1; unfold maxLen; omega, fun z hz => wf_k ((h.nd x hx).2.2.2 z hz)⟩, by have := h.s; unfold maxLen; omega, fun z hz => wf_k (h.st z hz),
    by have := h.o; unfold maxLen; omega, fun s hs => by have := h.on s hs; unfold maxLen; omega, by have := h.i; unfold maxLen; omega, fun x hx => ⟨by have := (h.iw x hx).1; unfold maxLen; omega, wf_k (h.iw x hx).2⟩⟩
theorem sum_le {ns : List Nd} {m : Nat} (h : ∀ x ∈ ns, x.links.length ≤ m) : sumBy (fun c : Nd => c.links.length) ns ≤ m * ns.length := by
  induction ns with
  | nil => simp [sumBy]
  | cons x r ih =>
    have e : ∀ (y : Nd) (l : List Nd), sumBy (fun c : Nd => c.links.length) (y :: l) = y.links.length + sumBy (fun c : Nd => c.links.length) l := fun y l => by simp [sumBy]
    rw [e, List.length_cons]
    have h1 := h x (List.mem_cons_self ..)
    have h2 := ih (fun y hy => h y (List.mem_cons_of_mem _ hy))
    rw [Nat.mul_add]
    omega
theorem Tame.mk_le {b : Big} (h : Tame b) : bigMk b ≤ 1048576 := by
  have h1 := sum_le (ns := b.nodes) (m := 1000) (fun x hx => (h.nd x hx).2.2.1)
  have h2 := h.n
  have h3 := h.s
  have h4 := h.o
  have h5 := h.i
  unfold bigMk ndMk
  have : 1000 * b.nodes.length ≤ 1000 * 1000 := Nat.mul_le_mul_left _ h2
  omega
theorem under_in {cs : List Ctl} {b : Big} {p k : Int} (hr : 0 ≤ b.roots ∧ b.roots ≤ 4) (hk : k ≤ 1000) (h : underB cs b p k = true) : -1000 ≤ p ∧ p ≤ 1000 := by
  unfold underB at h
  by_cases h0 : p < 0
  · rw [if_pos h0] at h
    have := inb_true h
    omega
  · rw [if_neg h0] at h
    simp only [Bool.and_eq_true, decide_eq_true_eq] at h
    omega
theorem tame_good {cs : List Ctl} {b : Big} (h : bigB cs b = true) (hS : BigS b) : Tame b := by
  have hb := big_of h
  have z := sizes_of hb.2.1
  have hc : cs.length ≤ 6 := by have := inb_true hb.1.2.2; omega
  obtain ⟨s1, s2, s3, s4, s5, s6, s7⟩ := hS
  refine ⟨by omega, by omega, by omega, fun x hx => ?_, by omega, fun q hq => ?_, by omega, s5, by omega, fun x hx => ⟨s7 x hx, ?_⟩⟩
  · obtain ⟨k, hk⟩ := List.getElem?_of_mem hx
    have hkl := (List.getElem?_eq_some_iff.1 hk).1
    obtain ⟨h1, h2, h3⟩ := hb.2.2.2.2.1 k x hk
    unfold seatB at h1
    simp only [Bool.and_eq_true] at h1
    have c1 := inb_true h1.1
    have c2 := under_in z.1 (by omega) h1.2
    refine ⟨by omega, c2, ?_, fun l hl => ?_⟩
    · unfold portsB at h2
      cases hcc : cs[x.control.toNat]? with
      | none => rw [hcc] at h2; cases h2
      | some c =>
        rw [hcc] at h2
        have h2 : ((x.links.length : Int) == c.ports) = true := h2
        have e := eq_of_beq h2
        have hc := hb.1.1 _ c hcc
        unfold ctlB at hc
        simp only [Bool.and_eq_true] at hc
        have := inb_true hc.1.2
        omega
    · obtain ⟨i, hi⟩ := List.getElem?_of_mem hl
      have := inb_true (h3 i l hi)
      omega
  · obtain ⟨i, hi⟩ := List.getElem?_of_mem hq
    exact under_in z.1 (by omega) (hb.2.2.2.2.2.1 i q hi)
  · obtain ⟨i, hi⟩ := List.getElem?_of_mem hx
    have := inb_true (hb.2.2.2.2.2.2 i x hi)
    omega
end Go.Proofs.YtlpgldejmdiceabGreat.tm
