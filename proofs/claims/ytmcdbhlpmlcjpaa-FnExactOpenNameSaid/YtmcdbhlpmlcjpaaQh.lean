/- Ow Mrp Mri Mrs in one. -/
import Derived.Test.YtmcdbhlpmlcjpaaQg
import Derived.Test.YtmcdbhlpmlcjpaaQf
import Derived.Test.YtmcdbhlpmlcjpaaQd
import Derived.Test.YtmcdbhlpmlcjpaaQe
import Derived.Handy
set_option linter.unusedSimpArgs false
section
namespace Go.Proofs.Ytmcdbhlpmlcjpaa.ow
open kit bg sg opn strs only hb sig isig un over gn nm inn ht gd im pt marks eqs hc hi hw hn rs br bm bw cf lf ib isa lawb lw cl rt chd pts psp idl has pm sb wb mb rl ed rnp lep rnm tp rn
open Go.RowKit
set_option linter.unusedVariables false
end Go.Proofs.Ytmcdbhlpmlcjpaa.ow
end

section
namespace Go.Proofs.Ytmcdbhlpmlcjpaa.mrp
open kit bg sg opn strs only hb sig isig un over gn nm inn ht gd im pt marks eqs hc hi hw hn rs br bm bw cf lf ib isa lawb lw cl rt chd pts psp idl bs ln rl ed lep
open Go.RowKit
set_option linter.unusedVariables false
/-- one root in place of all -/
def onF (p : Int) : Int := if p < 0 then -1 else p
def onB (b : Big) : Big := ⟨1, b.nodes.map (fun x => ⟨x.control, onF x.parent, x.links⟩), b.sites.map onF, b.edges, b.outer, b.inner⟩
theorem mixP_all (f : Int → Int) (b : Big) : (mixP f b.nodes.length b).nodes = b.nodes.map (fun x => ⟨x.control, f x.parent, x.links⟩) := by
  refine List.ext_getElem? (fun i => ?_)
  unfold mixP
  simp only [List.getElem?_mapIdx, List.getElem?_map]
  cases hx : b.nodes[i]? with
  | none => rfl
  | some x =>
    have hi := (List.getElem?_eq_some_iff.1 hx).1
    simp only [Option.map_some]
    rw [if_pos hi]
theorem Laid.newS {w : World} {lo m hi c : Nat} {P : Plan} {b : Big} {A : Option Addr} {zs : List Int} (h : Laid w lo m P b) (hr : RowR w m hi 3 1 A zs.length c (iat zs)) (hlo : lo ≤ m) (hm : m ≤ hi) : Laid w lo hi ⟨P.A1, P.c1, A, c, P.A4, P.c4, P.A5, P.c5, P.LA, P.LC⟩ ⟨b.roots, b.nodes, zs, b.edges, b.outer, b.inner⟩ := by
  obtain ⟨ha, ⟨h1, h1'⟩, h2, h4, h5⟩ := h
  refine ⟨fun k hk hne => ⟨fun e => ?_, (ha k hk hne).2⟩, ⟨h1.wide (Nat.le_refl _) hm, fun k hk => (h1' k hk).wide (Nat.le_refl _) hm⟩, hr.wide hlo (Nat.le_refl _), h4.wide (Nat.le_refl _) hm, h5.wide (Nat.le_refl _) hm⟩
  rcases h1' k hk with ⟨e1, _⟩ | ⟨g, f, e1, a1, a2, _⟩
  · exact hne e1
  · rcases hr with ⟨e2, _⟩ | ⟨g', f', e2, b1, b2, _⟩
    · exact hne (e.trans e2)
    · have e3 := e1.symm.trans (e.trans e2)
      injection e3 with e3
      injection e3 with e3
      omega
theorem nd_parts {w : World} {lo hi β k : Nat} {P : Plan} {bb : Big} {x : Nd} {v0 v1 v2 v3 v4 v5 : Value} (h : Laid w lo hi P bb) (hx : bb.nodes[k]? = some x) (hb : BoxAt w β 28 v0 v1 v2 v3 v4 v5) :
    ∃ g2 f2, P.A1 = some ⟨g2, 0, none⟩ ∧ lo ≤ g2 ∧ w.rowIs g2 86 (P.c1 * 3) f2 ∧ k * 3 + 1 < P.c1 * 3 ∧ f2 (k * 3 + 1) = .int .i64 x.parent ∧ ∀ w', Below w.heap.size w w' → ∀ z, Laid (w'.setCell ⟨g2, k * 3 + 1, none⟩ (.int .i64 z)) lo hi P (setP bb k z) ∧ BoxAt (w'.setCell ⟨g2, k * 3 + 1, none⟩ (.int .i64 z)) β 28 v0 v1 v2 v3 v4 v5 := by
  obtain ⟨g2, f2, e, hg, -, hr, hjc, -, hf, -, -⟩ := h.node hx
  refine ⟨g2, f2, e, hg, hr, by omega, hf, fun w' hq z => ⟨?_, ?_⟩⟩
  · obtain ⟨g3, f3, e', -, -, -, -, -, -, -, hst⟩ := (h.on hq).node hx
    rw [e] at e'
    injection e' with e'
    injection e' with e'
    subst e'
    exact hst z
  · have hne : β ≠ g2 := fun e => by
      subst e
      have := (rowIs_uniq hb hr).1
      exact absurd this (by decide)
    exact World.rowIs.setOther (hb.on hq) (a := ⟨g2, k * 3 + 1, none⟩) hne _
theorem _root_.Go.Proofs.Ytmcdbhlpmlcjpaa.cf.BoxAt.put0 {w : World} {β : Nat} {t : TypeId} {v0 v1 v2 v3 v4 v5 : Value} (h : BoxAt w β t v0 v1 v2 v3 v4 v5) (u : Value) : BoxAt (w.setCell ⟨β, 0, none⟩ u) β t u v1 v2 v3 v4 v5 := by
  have h6 : (w.setCell ⟨β, 0, none⟩ u).rowIs β t 6 _ := World.rowIs.set h 0 u
  unfold BoxAt
  refine h6.congr ?_
  intro i hi
  match i, hi with
  | 0, _ => rfl
  | 1, _ => rfl
  | 2, _ => rfl
  | 3, _ => rfl
  | 4, _ => rfl
  | 5, _ => rfl
theorem st_parts {w : World} {lo hi β k : Nat} {P : Plan} {bb : Big} {x : Int} {v0 v1 v2 v3 v4 v5 : Value} (h : Laid w lo hi P bb) (hx : bb.sites[k]? = some x) (hb : BoxAt w β 28 v0 v1 v2 v3 v4 v5) :
    ∃ g2 f2, P.A2 = some ⟨g2, 0, none⟩ ∧ lo ≤ g2 ∧ w.rowIs g2 3 P.c2 f2 ∧ k < P.c2 ∧ f2 k = .int .i64 x ∧ ∀ w', Below w.heap.size w w' → ∀ z, Laid (w'.setCell ⟨g2, k, none⟩ (.int .i64 z)) lo hi P (setS bb k z) ∧ BoxAt (w'.setCell ⟨g2, k, none⟩ (.int .i64 z)) β 28 v0 v1 v2 v3 v4 v5 := by
  obtain ⟨g2, f2, e, hg, hr, hjc, hf, -⟩ := h.site hx
  refine ⟨g2, f2, e, hg, hr, hjc, hf, fun w' hq z => ⟨?_, ?_⟩⟩
  · obtain ⟨g3, f3, e', -, -, -, -, hst⟩ := (h.on hq).site hx
    rw [e] at e'
    injection e' with e'
    injection e' with e'
    subst e'
    exact hst z
  · have hne : β ≠ g2 := fun e => by
      subst e
      have := (rowIs_uniq hb hr).1
      exact absurd this (by decide)
    exact World.rowIs.setOther (hb.on hq) (a := ⟨g2, k, none⟩) hne _
/-- the places moved by a function -/
def plB (F : Int → Int) (b : Big) : Big := ⟨b.roots, b.nodes.map (fun x => ⟨x.control, F x.parent, x.links⟩), b.sites.map F, b.edges, b.outer, b.inner⟩
theorem relB_id (b : Big) : relB (fun l => l) b = b := by
  unfold relB
  have h1 : b.nodes.map (fun x => (⟨x.control, x.parent, x.links.map (fun l => l)⟩ : Nd)) = b.nodes := by
    refine List.ext_getElem? (fun i => ?_)
    rw [List.getElem?_map]
    cases b.nodes[i]? with
    | none => rfl
    | some x => simp
  have h2 : b.inner.map (fun x => (⟨x.name, x.link⟩ : Wr)) = b.inner := by
    refine List.ext_getElem? (fun i => ?_)
    rw [List.getElem?_map]
    cases b.inner[i]? with
    | none => rfl
    | some x => rfl
  rw [h1, h2]
theorem mixS_zero (F : Int → Int) (b : Big) : mixS F 0 b = b := by
  unfold mixS
  congr 1
  refine List.ext_getElem? (fun i => ?_)
  rw [List.getElem?_mapIdx]
  cases b.sites[i]? with
  | none => rfl
  | some x => rfl
theorem mixS_get {F : Int → Int} {k : Nat} {b : Big} {x : Int} (hx : b.sites[k]? = some x) : (mixS F k b).sites[k]? = some x := by
  unfold mixS
  show (b.sites.mapIdx _)[k]? = _
  rw [List.getElem?_mapIdx, hx]
  show some (if _ then _ else _) = some x
  rw [if_neg (Nat.lt_irrefl k)]
theorem mixS_next {F : Int → Int} {k : Nat} {b : Big} {x : Int} (hx : b.sites[k]? = some x) : setS (mixS F k b) k (F x) = mixS F (k + 1) b := by
  unfold setS mixS
  congr 1
  have hk := (List.getElem?_eq_some_iff.1 hx).1
  refine List.ext_getElem? (fun i => ?_)
  rw [List.getElem?_set, List.getElem?_mapIdx, List.getElem?_mapIdx, List.length_mapIdx]
  by_cases e : k = i
  · subst e
    rw [if_pos rfl, if_pos hk, hx]
    show some _ = some (if _ then _ else _)
    rw [if_pos (Nat.lt_succ_self k)]
  · rw [if_neg e]
    cases b.sites[i]? with
    | none => rfl
    | some y =>
      show some (if _ then _ else _) = some (if _ then _ else _)
      by_cases h1 : i < k
      · rw [if_pos h1, if_pos (by omega)]
      · rw [if_neg h1, if_neg (by omega)]
theorem mixS_all (f : Int → Int) (b : Big) : (mixS f b.sites.length b).sites = b.sites.map f := by
  refine List.ext_getElem? (fun i => ?_)
  unfold mixS
  simp only [List.getElem?_mapIdx, List.getElem?_map]
  cases hx : b.sites[i]? with
  | none => rfl
  | some x =>
    have hi := (List.getElem?_eq_some_iff.1 hx).1
    simp only [Option.map_some]
    rw [if_pos hi]
theorem mix_pl (f : Int → Int) (b : Big) : mixS f b.sites.length (mixP f b.nodes.length b) = plB f b := by
  have h1 := mixP_all f b
  have h2 := mixS_all f b
  have e : mixS f b.sites.length (mixP f b.nodes.length b) = ⟨b.roots, (mixP f b.nodes.length b).nodes, (mixS f b.sites.length b).sites, b.edges, b.outer, b.inner⟩ := rfl
  rw [e, h1, h2]
  rfl
noncomputable def mrR (cs : List Ctl) (b : Big) : Big := if bigB cs b = true then onB b else zeroBig
theorem mrR_no {cs : List Ctl} {b : Big} (h : bigB cs b = false) : mrR cs b = zeroBig := by unfold mrR; rw [h]; rfl
theorem mrR_yes {cs : List Ctl} {b : Big} (h : bigB cs b = true) : mrR cs b = onB b := by unfold mrR; rw [if_pos h]
theorem onB_pl (b : Big) : onB b = ⟨1, (plB onF b).nodes, (plB onF b).sites, (plB onF b).edges, (plB onF b).outer, (plB onF b).inner⟩ := rfl
theorem onB_len (b : Big) : bigMk (onB b) = bigMk b := by
  unfold bigMk ndMk
  have h1 : (onB b).nodes.length = b.nodes.length := by simp [onB]
  have h2 : sumBy (fun c : Nd => c.links.length) (onB b).nodes = sumBy (fun c : Nd => c.links.length) b.nodes := by
    unfold onB
    generalize b.nodes = ns
    induction ns with
    | nil => rfl
    | cons x r ih =>
      have e : ∀ (y : Nd) (l : List Nd), sumBy (fun c : Nd => c.links.length) (y :: l) = y.links.length + sumBy (fun c : Nd => c.links.length) l := fun y l => by simp [sumBy]
      simp only [List.map_cons] at ih ⊢
      rw [e, e, ih]
  have h3 : (onB b).sites.length = b.sites.length := by simp [onB]
  rw [h1, h2, h3]
  rfl
theorem mr_len (cs : List Ctl) (b : Big) : bigMk (mrR cs b) ≤ 1048576 := by
  cases hq : bigB cs b with
  | false => rw [mrR_no hq]; decide
  | true => rw [mrR_yes hq, onB_len]; exact big_mk hq
end Go.Proofs.Ytmcdbhlpmlcjpaa.mrp
end

section
namespace Go.Proofs.Ytmcdbhlpmlcjpaa.mri
open kit bg sg opn strs only hb sig isig un over gn nm inn ht gd im pt marks eqs hc hi hw hn rs br bm bw cf lf ib isa lawb lw cl rt chd pts psp idl bs ln rl ed lep pl mrp tp
open Go.RowKit
set_option linter.unusedVariables false
set_option linter.unusedSimpArgs false
/-- where a place goes -/
def toF (g : Int → Int) (N : Int) (p : Int) : Int := if p < 0 then g (-1 - p) else N + p
theorem one_cell (w : World) (u : Value) (t : TypeId) : (w.alloc (.cells #[u] t)).cell? ⟨w.heap.size, 0, none⟩ = some u := ((row_new w #[u] t 1 rfl).cell (show 0 < 1 by omega) : _)
theorem toF_on : toF (fun _ => -1) 0 = onF := by
  funext p
  unfold toF onF
  by_cases h : p < 0
  · rw [if_pos h, if_pos h]
  · rw [if_neg h, if_neg h, Int.zero_add]
end Go.Proofs.Ytmcdbhlpmlcjpaa.mri
end

section
namespace Go.Proofs.Ytmcdbhlpmlcjpaa.mrs
open kit bg sg opn strs only hb sig isig un over gn nm inn ht gd im pt marks eqs hc hi hw hn rs br bm bw cf lf ib isa lawb lw cl rt chd pts psp idl has pm sb wb mb rl ed rnp lep rnm tp rn ow mrp
open Go.RowKit
set_option linter.unusedVariables false
/-- a place among other places -/
def pcF (zs : List Int) (by_ : Int) (p : Int) : Int := if p < 0 then zs.getD (-1 - p).toNat 0 else p + by_
theorem pcF_neg {zs : List Int} {y : Int} {k : Nat} {z : Int} (h : zs[k]? = some z) : pcF zs y (-1 - (k : Int)) = z := by
  unfold pcF
  rw [if_pos (by omega), show (-1 - (-1 - (k : Int))).toNat = k by omega, List.getD_eq_getElem?_getD, h]
  rfl
theorem pcF_pos {zs : List Int} {y p : Int} (h : ¬ p < 0) : pcF zs y p = p + y := by unfold pcF; rw [if_neg h]
set_option maxRecDepth 20000 in
set_option maxHeartbeats 400000 in
theorem par_any (A : Option Addr) (n c : Nat) (zs : List Int) (y p : Int) (w : World) (B : Nat) (h : IntsAt w B A n zs) (hp : -(n : Int) ≤ p) (hn : n ≤ 1048576) (hp1 : p ≤ 1048576) (hy : 0 ≤ y ∧ y ≤ 1048576) :
    Calls Try.prog 138 #[.int .i64 p, .int .i64 y, .slice A n c] w fun e w' => e = .returned (.int .i64 (pcF zs y p)) ∧ w = w' := by
  obtain ⟨hy0, hy1⟩ := hy
  by_cases h0 : p < 0
  · obtain ⟨k, rfl⟩ : ∃ k : Nat, p = -1 - (k : Int) := ⟨(-1 - p).toNat, by omega⟩
    obtain ⟨b, off, z, rfl, hb, hz, cz⟩ := h.get (show k < n by omega)
    have HE := Lib.hid (pcF_neg (y := y) hz)
    have hk : -1 - (-1 - (k : Int)) = k := by omega
    rw [HE.out]
    clear hz
    go_enter Try.func138, Try.ntmps138
    go_wp2_with (rw [hk])
    go_ret
    exact ⟨rfl, rfl⟩
  · have HE := Lib.hid (pcF_pos (zs := zs) (y := y) h0)
    rw [HE.out]
    go_enter Try.func138, Try.ntmps138
    go_wp2_with fail
    go_ret
    exact ⟨rfl, rfl⟩
set_option maxRecDepth 20000 in
set_option maxHeartbeats 3200000 in
theorem sit_any (A : Option Addr) (n c : Nat) (zs : List Int) (y : Int) (v : Value) (b : Big) (w : World) (hv : BigAt w w.heap.size v b) (hN : NilV v) (h : IntsAt w w.heap.size A n zs) (hn : n ≤ 1048576) (hy : 0 ≤ y ∧ y ≤ 1048576) (hs : b.sites.length ≤ 1048576) (hp : ∀ p ∈ b.sites, -(n : Int) ≤ p ∧ p ≤ 1048576) :
    Calls Try.prog 124 #[v, .int .i64 y, .slice A n c] w fun e w' => ∃ A' c', e = .returned (.slice A' b.sites.length c') ∧ RowR w' w.heap.size w'.heap.size 3 1 A' b.sites.length c' (iat (b.sites.map (pcF zs y))) ∧ Below w.heap.size w w' := by
  obtain ⟨A1, n1, c1, A2, n2, c2, A4, n4, c4, A5, n5, c5, rfl, h1, h2, h4, h5⟩ := hv
  have l2 := h2.len
  have HL2 := Lib.hid l2
  have HBox0 : Hid (BoxAt (w.alloc (.cells #[.int .i64 b.roots, .slice A1 n1 c1, .slice A2 n2 c2, .int .i64 b.edges, .slice A4 n4 c4, .slice A5 n5 c5] 28)) w.heap.size 28 (.int .i64 b.roots) (.slice A1 n1 c1) (.slice A2 n2 c2) (.int .i64 b.edges) (.slice A4 n4 c4) (.slice A5 n5 c5)) := Lib.hid (six_new w _ _ _ _ _ _ _)
  have hb0 := (Below.refl w.heap.size w).alloc (Nat.le_refl _) (.cells #[.int .i64 b.roots, .slice A1 n1 c1, .slice A2 n2 c2, .int .i64 b.edges, .slice A4 n4 c4, .slice A5 n5 c5] 28)
  obtain ⟨U, hU⟩ : ∃ U, w.alloc (.cells #[.int .i64 b.roots, .slice A1 n1 c1, .slice A2 n2 c2, .int .i64 b.edges, .slice A4 n4 c4, .slice A5 n5 c5] 28) = U := ⟨_, rfl⟩
  have hUz : U.heap.size = w.heap.size + 1 := by rw [← hU]; simp
  rw [hU] at HBox0 hb0
  have HUq := Lib.hid hU
  have HB0 := Lib.hid hb0
  obtain ⟨i0, hi, hz0, hz1, hz2⟩ := info_parts int_info
  have HI := Lib.hid (And.intro hi (And.intro hz0 (And.intro hz1 hz2)))
  have HOt := Lib.hid (ownsRow_nil_new U 3 1 U.heap.size (Nat.le_refl _))
  rw [hUz] at HOt
  have HbV := Lib.hid ((Below.refl U.heap.size U).alloc (Nat.le_refl _) (.cells #[] 3))
  have hn2 : n2 ≤ 1048576 := by omega
  clear hb0 hU hi hz0 hz1 hz2 l2
  go_enter Try.func124, Try.ntmps124
  go_wp2_with fail
  rw [HUq.out]
  have hWs : w.heap.size < U.heap.size := by omega
  clear HUq
  go_loopw [7, 8] (fun l i wr => ∃ (k : Nat) (v : Value), k ≤ n2 ∧ i = .int .i64 k ∧ v = l ∧ wr.ownsRow (w.heap.size + 1) 3 1 v k (((b.sites.take k).map (pcF zs y)).map (Value.int .i64)) ∧ Below U.heap.size U wr) (fun _ i _ => n2 - (intOf i).toNat)
  case atStart => exact ⟨0, _, Nat.zero_le _, rfl, rfl, HOt.out, HbV.out⟩
  case round =>
    obtain ⟨k, v, hk, rfl, rfl, hown, hbel⟩ := hrel
    have hbw := HB0.out.trans (hbel.mono HB0.out.size)
    have hwU := hbel.size
    obtain ⟨x0, x1, x2, x3, x4, x5⟩ := (HBox0.out.below hbel hWs).get
    by_cases hlt : k < n2
    · obtain ⟨bs, offs, z, rfl, hbs, hz, cz⟩ := h2.get hlt
      have q := (hbw.cell (p := ⟨bs, offs + k, none⟩) hbs).trans cz
      have hzp := hp z (List.mem_of_getElem? hz)
      obtain ⟨T, hT⟩ : ∃ T, pcF zs y z = T := ⟨_, rfl⟩
      have C := par_any A n c zs y z wr _ (h.below hbw) hzp.1 hn hzp.2 hy
      rw [hT] at C
      obtain ⟨D, hD⟩ : ∃ D, ((b.sites.take k).map (pcF zs y)).map (Value.int .i64) = D := ⟨_, rfl⟩
      have HD : Hid (((b.sites.take (k + 1)).map (pcF zs y)).map (Value.int .i64) = D ++ [.int .i64 T]) := Lib.hid (by rw [take_snoc hz, List.map_append, List.map_append, hD, ← hT]; rfl)
      rw [hD] at hown
      have HBl := Lib.hid hbel
      have HGr := Lib.hid (fun (w1 : World) (hg1 : (wr.alloc (.cells #[.int .i64 T] 3)).grownBy w1 v.ownBlock) => (HBl.out.alloc HBl.out.size (.cells #[.int .i64 T] 3)).grown hg1 (by simp; omega) (fun j hj => by have := (hown.lt j hj).1; omega))
      have e1 : k + 1 ≤ maxLen := by unfold maxLen; omega
      have e2 : (k + 1) * 8 ≤ 140737488355328 := by omega
      clear hz cz hT hD hbel h2 h hp hzp
      go_wp2_with fail
      refine C.mono ?_
      rintro e w2 ⟨rfl, rfl⟩
      clear C
      go_wp2_with (at_builtin; refine wpList_append_own _ rfl _ _ 25 rfl (w.heap.size + 1) 3 i0 (.int .i64 0) 1 8 Try.underlying25 HI.out.1 HI.out.2.1 HI.out.2.2.1 HI.out.2.2.2 rfl (by decide) _ _ _ rfl (hown.alloc _) ⟨wr.heap.size, 0, none⟩ 1 1 [.int .i64 T] rfl rfl (cell_one_new _ _ _) (fun x hx => by simp at hx; subst hx; rfl) e1 e2 (by simp; omega) ?_; intro v1 w1 hown1 hgrow1 hnil1; have HB1 := Lib.hid (HGr.out w1 hgrow1); have HO1 := Lib.hid hown1; clear x0 x1 x2 x3 x4 x5 q)
      go_roundw
      case rel => exact ⟨k + 1, _, by omega, by go_num, rfl, by rw [HD.out]; exact HO1.out, HB1.out⟩
      case measure => simp [intOf]; omega
    · obtain rfl : n2 = k := by omega
      rw [List.take_of_length_le (by rw [HL2.out]; exact Nat.le_refl _)] at hown
      obtain ⟨A2o, c2o, rfl, hrs⟩ := ints_owned hown
      have hls : (b.sites.map (pcF zs y)).length = n2 := by rw [List.length_map]; exact HL2.out
      rw [hls] at hrs ⊢
      have HR := Lib.hid (hrs.wide (lo' := w.heap.size) (Nat.le_succ _) (Nat.le_refl _))
      have HBw := Lib.hid hbw
      clear hown hbel hrs hls
      go_wp2_with fail
      go_ret
      rw [HL2.out]
      exact ⟨_, _, rfl, HR.out, HBw.out⟩
def ones (k : Nat) : List Int := List.replicate k (-1)
theorem ones_snoc (k : Nat) : ones (k + 1) = ones k ++ [-1] := List.replicate_succ'
theorem ones_len (k : Nat) : (ones k).length = k := List.length_replicate
theorem pc_on {R : Nat} {p : Int} (h : -(R : Int) ≤ p) : pcF (ones R) 0 p = onF p := by
  by_cases h0 : p < 0
  · obtain ⟨k, rfl⟩ : ∃ k : Nat, p = -1 - (k : Int) := ⟨(-1 - p).toNat, by omega⟩
    unfold onF
    rw [if_pos h0]
    exact pcF_neg (by unfold ones; rw [List.getElem?_replicate, if_pos (by omega)])
  · rw [pcF_pos h0]
    unfold onF
    rw [if_neg h0, Int.add_zero]
end Go.Proofs.Ytmcdbhlpmlcjpaa.mrs
end
