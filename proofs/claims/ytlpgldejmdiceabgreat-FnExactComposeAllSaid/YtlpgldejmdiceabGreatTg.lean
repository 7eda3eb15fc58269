/- Targets of links: impl.targetOf, isEdge, insteadOf. -/
import Derived.Test.YtlpgldejmdiceabGreatIx
import Derived.Test.YtlpgldejmdiceabGreatQd
namespace Go.Proofs.YtlpgldejmdiceabGreat.tg
open kit bg sg opn strs only hb sig inn ht marks eqs hc hi hw hn rs br bm bw cf lawb lw ix
open Go.RowKit
set_option linter.unusedVariables false
set_option linter.unusedSimpArgs false
structure Tgt where
  edge : Int
  name : ByteArray
def noS : ByteArray := ⟨#[]⟩
def tgV (t : Tgt) : Value := .agg #[.int .i64 t.edge, .string t.name]
/-- the target of a link -/
def tgOf (b : Big) (l : Int) : Tgt := if l < b.edges then ⟨l, noS⟩ else ⟨0, (b.outer[(l - b.edges).toNat]?).getD noS⟩
theorem tgOf_edge {b : Big} {l : Int} (h : l < b.edges) : tgOf b l = ⟨l, noS⟩ := if_pos h
theorem tgOf_name {b : Big} {l : Int} {k : Nat} {s : ByteArray} (h : ¬ l < b.edges) (hk : l - b.edges = k) (hs : b.outer[k]? = some s) : tgOf b l = ⟨0, s⟩ := by
  unfold tgOf
  rw [if_neg h, hk, Int.toNat_natCast, hs]
  rfl
/-- where a target lies -/
def TwoAt (w : World) (β : Nat) (t : Tgt) : Prop := ∃ f, w.rowIs β 119 2 f ∧ f 0 = .int .i64 t.edge ∧ f 1 = .string t.name
theorem two_new (w : World) (t : Tgt) : TwoAt (w.alloc (.cells #[.int .i64 t.edge, .string t.name] 119)) w.heap.size t := ⟨_, row_new w #[.int .i64 t.edge, .string t.name] 119 2 rfl, rfl, rfl⟩
section
variable {w w' : World} {β : Nat} {t : Tgt}
theorem TwoAt.get (h : TwoAt w β t) : w.cell? ⟨β, 0, none⟩ = some (.int .i64 t.edge) ∧ w.cell? ⟨β, 1, none⟩ = some (.string t.name) := by
  obtain ⟨f, hr, e0, e1⟩ := h
  exact ⟨by rw [hr.cell (show 0 < 2 by omega), e0], by rw [hr.cell (show 1 < 2 by omega), e1]⟩
theorem TwoAt.lt (h : TwoAt w β t) : β < w.heap.size := by obtain ⟨f, hr, -⟩ := h; exact hr.lt
theorem TwoAt.on (h : TwoAt w β t) (hb : Below w.heap.size w w') : TwoAt w' β t := by
  obtain ⟨f, hr, e⟩ := h
  exact ⟨f, hr.of_block (hb.block _ hr.lt), e⟩
theorem TwoAt.below {B : Nat} (h : TwoAt w β t) (hb : Below B w w') (hB : β < B) : TwoAt w' β t := by
  obtain ⟨f, hr, e⟩ := h
  exact ⟨f, hr.of_block (hb.block _ hB), e⟩
theorem TwoAt.fz (h : TwoAt w β t) : w.frozen? ⟨β, 0, none⟩ = false ∧ w.frozen? ⟨β, 1, none⟩ = false := by
  obtain ⟨f, hr, -⟩ := h
  exact ⟨hr.frozen 0, hr.frozen 1⟩
theorem TwoAt.put {u : Tgt} (h : TwoAt w β t) : TwoAt ((w.setCell ⟨β, 0, none⟩ (.int .i64 u.edge)).setCell ⟨β, 1, none⟩ (.string u.name)) β u := by
  obtain ⟨f, hr, -⟩ := h
  exact ⟨_, (hr.set 0 (.int .i64 u.edge)).set 1 (.string u.name), rfl, rfl⟩
end
set_option maxRecDepth 20000 in
set_option maxHeartbeats 1600000 in
theorem tof_any (v : Value) (b : Big) (l : Int) (w0 w : World) (hv : BigAt w0 w0.heap.size v b) (hb0 : Below w0.heap.size w0 w) (hl : 0 ≤ l ∧ l < b.edges + b.outer.length) (hE : 0 ≤ b.edges ∧ b.edges ≤ 8) (ho : b.outer.length ≤ 16) :
    Calls Tryz.prog 94 #[v, .int .i64 l] w fun e w' => e = .returned (tgV (tgOf b l)) ∧ Below w.heap.size w w' := by
  obtain ⟨A1, n1, c1, A2, n2, c2, A4, n4, c4, A5, n5, c5, rfl, h1, h2, h4, h5⟩ := hv
  obtain ⟨hl0, hl1⟩ := hl
  obtain ⟨hE0, hE1⟩ := hE
  have hn4 : b.outer.length = n4 := h4.strlen
  have hb1 := (Below.refl w.heap.size w).alloc (Nat.le_refl _) (.cells #[.int .i64 b.roots, .slice A1 n1 c1, .slice A2 n2 c2, .int .i64 b.edges, .slice A4 n4 c4, .slice A5 n5 c5] 31)
  have HBoxI : BoxAt (w.alloc (.cells #[.int .i64 b.roots, .slice A1 n1 c1, .slice A2 n2 c2, .int .i64 b.edges, .slice A4 n4 c4, .slice A5 n5 c5] 31)) w.heap.size 31 (.int .i64 b.roots) (.slice A1 n1 c1) (.slice A2 n2 c2) (.int .i64 b.edges) (.slice A4 n4 c4) (.slice A5 n5 c5) := six_new w _ _ _ _ _ _ _
  obtain ⟨U, hU⟩ : ∃ U, w.alloc (.cells #[.int .i64 b.roots, .slice A1 n1 c1, .slice A2 n2 c2, .int .i64 b.edges, .slice A4 n4 c4, .slice A5 n5 c5] 31) = U := ⟨_, rfl⟩
  have hUz : U.heap.size = w.heap.size + 1 := by rw [← hU, World.size_alloc]
  rw [hU] at hb1 HBoxI
  have HUq := Lib.hid hU
  have HAl := Lib.hid (fun (t : Tgt) => And.intro (two_new U t) (hb1.trans (((Below.refl U.heap.size U).alloc (Nat.le_refl _) (.cells #[.int .i64 t.edge, .string t.name] 119)).mono hb1.size)))
  rw [hUz] at HAl
  have hB := (HAl.out ⟨0, noS⟩).2
  have hb2 := (Below.refl U.heap.size U).alloc (Nat.le_refl _) (.cells #[.int .i64 0, .string ⟨#[]⟩] 119)
  obtain ⟨x0, x1, x2, x3, x4, x5⟩ := (HBoxI.on hb2).get
  by_cases h0 : l < b.edges
  · have HE := Lib.hid (tgOf_edge h0)
    rw [HE.out]
    obtain ⟨z0, z1⟩ := (HAl.out ⟨l, noS⟩).1.get
    dsimp only [noS] at z0 z1
    clear hb1 hU HBoxI hB h1 h2 h4 h5 hb2
    go_enter Tryz.func94, Tryz.ntmps94
    go_wp2_with fail
    rw [HUq.out]
    (try go_wp2_with fail)
    exact bodyPost_ret (v := .agg #[.int .i64 l, .string ⟨#[]⟩]) (by simp [results, Tryz.results94, go_sem, z0, z1]) rfl ⟨rfl, (HAl.out ⟨l, noS⟩).2⟩
  · obtain ⟨k, hk⟩ : ∃ k : Nat, l - b.edges = k := ⟨(l - b.edges).toNat, by omega⟩
    obtain ⟨b4, o4, s, rfl, hb4, hs, cs4⟩ := h4.str (show k < n4 by omega)
    have HE := Lib.hid (tgOf_name h0 hk hs)
    rw [HE.out]
    have hlk : l = b.edges + k := by omega
    have hkn : k < n4 := by omega
    have d4 := ((hb0.trans (hB.mono hb0.size)).cell (p := ⟨b4, o4 + k, none⟩) hb4).trans cs4
    dsimp only [noS] at d4
    obtain ⟨z0, z1⟩ := (HAl.out ⟨0, s⟩).1.get
    clear hb1 hU HBoxI hB h1 h2 h4 h5 hs cs4 hk hb2
    subst hlk
    have hsub : b.edges + (k : Int) - b.edges = (k : Int) := by omega
    go_enter Tryz.func94, Tryz.ntmps94
    rw [← HUq.out] at d4
    go_wp2_with fail
    rw [HUq.out]
    exact bodyPost_ret (v := .agg #[.int .i64 0, .string s]) (by simp [results, Tryz.results94, go_sem, z0, z1]) rfl ⟨rfl, (HAl.out ⟨0, s⟩).2⟩
/-- a target is an edge -/
def isE (t : Tgt) : Bool := t.name.toList.isEmpty
theorem isE_any (t : Tgt) (w : World) : Calls Tryz.prog 93 #[tgV t] w fun e w' => e = .returned (.bool (isE t)) ∧ Below w.heap.size w w' := by
  have hb := (Below.refl w.heap.size w).alloc (Nat.le_refl _) (.cells #[.int .i64 t.edge, .string t.name] 119)
  unfold tgV isE
  go_enter Tryz.func93, Tryz.ntmps93
  go_wp2_with fail
  go_ret
  exact ⟨rfl, hb⟩
open Classical in
/-- one target in the place of another -/
noncomputable def insF (o t u : Tgt) : Tgt := if u.edge = o.edge ∧ u.name = o.name then t else u
open Classical in
theorem insF_yes {o t u : Tgt} (h1 : u.edge = o.edge) (h2 : u.name = o.name) : insF o t u = t := by unfold insF; exact if_pos ⟨h1, h2⟩
open Classical in
theorem insF_no {o t u : Tgt} (h : ¬ (u.edge = o.edge ∧ u.name = o.name)) : insF o t u = u := by unfold insF; exact if_neg h
end Go.Proofs.YtlpgldejmdiceabGreat.tg
