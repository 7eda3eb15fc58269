/- impl.OpenName$1: what a target becomes where an edge becomes a name. -/
import Derived.Test.YtlpgldejmdiceabGreatTg
namespace Go.Proofs.YtlpgldejmdiceabGreat.oc
open kit bg sg opn strs only hb sig isig un over gn nm inn ht gd im pt marks eqs hc hi hw hn rs br bm bw cf lf ib isa lawb lw cl ix tg
open Go.RowKit
set_option linter.unusedVariables false
set_option linter.unusedSimpArgs false
open Classical in
/-- an edge that becomes a name -/
noncomputable def opF (e : Int) (s : ByteArray) (u : Tgt) : Tgt := if isE u = true then (if u.edge = e then ⟨0, s⟩ else if e < u.edge then ⟨u.edge - 1, u.name⟩ else u) else u
theorem opF_name {e : Int} {s : ByteArray} {u : Tgt} (h : isE u = false) : opF e s u = u := by unfold opF; exact if_neg (by rw [h]; decide)
theorem opF_it {e : Int} {s : ByteArray} {u : Tgt} (h : isE u = true) (h1 : u.edge = e) : opF e s u = ⟨0, s⟩ := by unfold opF; rw [if_pos h, if_pos h1]
theorem opF_more {e : Int} {s : ByteArray} {u : Tgt} (h : isE u = true) (h1 : ¬ u.edge = e) (h2 : e < u.edge) : opF e s u = ⟨u.edge - 1, u.name⟩ := by unfold opF; rw [if_pos h, if_neg h1, if_pos h2]
theorem opF_less {e : Int} {s : ByteArray} {u : Tgt} (h : isE u = true) (h1 : ¬ u.edge = e) (h2 : ¬ e < u.edge) : opF e s u = u := by unfold opF; rw [if_pos h, if_neg h1, if_neg h2]
theorem two_edge {w : World} {β : Nat} {t : Tgt} (h : TwoAt w β t) (e : Int) : TwoAt (w.setCell ⟨β, 0, none⟩ (.int .i64 e)) β ⟨e, t.name⟩ := by
  obtain ⟨f, hr, h0, h1⟩ := h
  exact ⟨_, hr.set 0 (.int .i64 e), rfl, h1⟩
theorem two_far {w : World} {β γ : Nat} {t : Tgt} (h : TwoAt w γ t) (hne : γ ≠ β) (v : Value) : TwoAt (w.setCell ⟨β, 0, none⟩ v) γ t := by
  obtain ⟨f, hr, e⟩ := h
  exact ⟨f, hr.of_block (by first | exact Below.heap_setCell _ _ _ _ hne | exact Below.heap_setCell _ _ _ _ hne.symm), e⟩
end Go.Proofs.YtlpgldejmdiceabGreat.oc
