/- Sio Sd Ap Ux Sh Mw. -/
import Derived.Test.YtfjgapkjpmkplaaGreatXa
import Derived.Test.YtfjgapkjpmkplaaGreatXc
import Derived.Test.YtfjgapkjpmkplaaGreatXd
import Derived.Test.YtfjgapkjpmkplaaGreatXh
import Derived.Test.YtfjgapkjpmkplaaGreatZUs
import Derived.Test.YtfjgapkjpmkplaaGreatXb
import Derived.Test.YtfjgapkjpmkplaaGreatXe
import Derived.Test.YtfjgapkjpmkplaaGreatXf
import Derived.Test.YtfjgapkjpmkplaaGreatYa012
import Derived.Test.YtfjgapkjpmkplaaGreatYb012
import Derived.Test.YtfjgapkjpmkplaaGreatZMg
import Derived.Test.YtfjgapkjpmkplaaGreatZRta
import Derived.Test.YtfjgapkjpmkplaaGreatZRtg
import Derived.Test.YtfjgapkjpmkplaaGreatRows
import Derived.WalkKit
import Derived.WalkSpells
import Derived.WalkLawsBesides
import Derived.ProofKit
import Derived.OpenShut
import Derived.ShutString
import Derived.Deep.OwnRows
import Derived.Deep.Draws
import Derived.SliceStrings
import Derived.ChangeOld
import Derived.Below
import Derived.Lib.Hide
import Derived.Lib.ItoaNum
import Derived.Deep.QuietTactic
import Derived.BigQuiet
import Derived.Outline
import Derived.StillTailTactics
import Derived.Deep.RegionWith
import Derived.Deep.RegionHeld3
import Derived.Deep.Slices
import Derived.Deep.Fields
import Derived.ChangeSame
import Derived.Lib.SmallJoins
import Derived.Maps.OwnOps
import Derived.Maps.OwnIn
import Derived.Maps.Views
import Derived.Maps.AppendAt
import Derived.RangeFuncBox
import Derived.RangeFuncLeaves
import Derived.Shelf.Abstract
import Derived.OwnWalkIn
import Derived.TacticsInMore
import Derived.LoopNIn
import Derived.LoopIn
import Derived.RangeFuncWrites
import Derived.RangeFuncNested
import Derived.JoinedOf
import Derived.Deep.AppendLies
import Derived.Deep.RegionLaw
import Derived.Laws.AppendOwnNone
import Derived.Deep.Cut
import Derived.Deep.CutRange
import Derived.Lib.SliceRun
import Derived.Lib.AppendZerosOnto
import Derived.OrdersHeld
import Derived.StillTail
import Derived.Lib.Walk
import Derived.Deep.LoopGhost
import Derived.Handy
import Derived.Lib.LazyBuf
import Derived.Sort.OwnSorted
import Derived.Lib.SlicesCompact
import Derived.Sort.KeysCollected
import Derived.Test.YtfjgapkjpmkplaaGreatSfl
import Derived.Shelf.SlSortCmp.NoneTotal
import Derived.WalkMore
import Derived.ScopeJumps
set_option linter.unusedSimpArgs false
set_option linter.unusedVariables false
section
namespace Go.Proofs.YtfjgapkjpmkplaaGreat.sio
open kit bg sg opn strs only hb sig isig un over gn nm inn ht gd im pt marks eqs hc hi hw hn rs br bm bw cf lf ib lw cl rt psp pm sb wb mb rl ed rnp lep rnm tp rn ow mrp mrs
open us (own_low)
open Go.RowKit
set_option linter.unusedVariables false
set_option maxRecDepth 20000 in
set_option maxHeartbeats 3200000 in
theorem sio_any (A : Option Addr) (n c : Nat) (zs : List Int) (y : Int) (v : Value) (b : Big) (w : World) (hv : BigAt w w.heap.size v b) (hN : NilV v) (h : IntsAt w w.heap.size A n zs) (hn : n ≤ 1048576) (hy : 0 ≤ y ∧ y ≤ 1048576) (hs : b.sites.length ≤ 1048576) (hp : ∀ p ∈ b.sites, -(n : Int) ≤ p ∧ p ≤ 1048576) :
    Calls Tryz.prog 198 #[v, .int .i64 y, .slice A n c] w fun e w' => ∃ v, e = .returned v ∧ w'.ownsRow w.heap.size 3 1 v b.sites.length ((b.sites.map (pcF zs y)).map (Value.int .i64)) ∧ Below w.heap.size w w' := by
  obtain ⟨A1, n1, c1, A2, n2, c2, A4, n4, c4, A5, n5, c5, rfl, h1, h2, h4, h5⟩ := hv
  have l2 := h2.len
  have HL2 := Lib.hid l2
  have HBox0 : Hid (BoxAt (w.alloc (.cells #[.int .i64 b.roots, .slice A1 n1 c1, .slice A2 n2 c2, .int .i64 b.edges, .slice A4 n4 c4, .slice A5 n5 c5] 36)) w.heap.size 36 (.int .i64 b.roots) (.slice A1 n1 c1) (.slice A2 n2 c2) (.int .i64 b.edges) (.slice A4 n4 c4) (.slice A5 n5 c5)) := Lib.hid (six_new w _ _ _ _ _ _ _)
  have hb0 := (Below.refl w.heap.size w).alloc (Nat.le_refl _) (.cells #[.int .i64 b.roots, .slice A1 n1 c1, .slice A2 n2 c2, .int .i64 b.edges, .slice A4 n4 c4, .slice A5 n5 c5] 36)
  obtain ⟨U, hU⟩ : ∃ U, w.alloc (.cells #[.int .i64 b.roots, .slice A1 n1 c1, .slice A2 n2 c2, .int .i64 b.edges, .slice A4 n4 c4, .slice A5 n5 c5] 36) = U := ⟨_, rfl⟩
  have hUz : U.heap.size = w.heap.size + 1 := by rw [← hU]; simp
  rw [hU] at HBox0 hb0
  have HUq := Lib.hid hU
  have HB0 := Lib.hid hb0
  obtain ⟨i0, hi, hz0, hz1, hz2⟩ := info_parts int_info
  have HI := Lib.hid (And.intro hi (And.intro hz0 (And.intro hz1 hz2)))
  have HOt := Lib.hid (ownsRow_nil_new U 3 1 U.heap.size (Nat.le_refl _))
  rw [hUz] at HOt
  have HbV := Lib.hid ((Below.refl U.heap.size U).alloc (Nat.le_refl _) (.cells #[] 3))
  have hn2 : n2 ≤ 1048576 := by omega
  clear hb0 hU hi hz0 hz1 hz2 l2
  go_enter Tryz.func198, Tryz.ntmps198
  go_wp2_with fail
  rw [HUq.out]
  have hWs : w.heap.size < U.heap.size := by omega
  clear HUq
  go_loopw [7, 8] (fun l i wr => ∃ (k : Nat) (v : Value), k ≤ n2 ∧ i = .int .i64 k ∧ v = l ∧ wr.ownsRow (w.heap.size + 1) 3 1 v k (((b.sites.take k).map (pcF zs y)).map (Value.int .i64)) ∧ Below U.heap.size U wr) (fun _ i _ => n2 - (intOf i).toNat)
  case atStart => exact ⟨0, _, Nat.zero_le _, rfl, rfl, HOt.out, HbV.out⟩
  case round =>
    obtain ⟨k, v, hk, rfl, rfl, hown, hbel⟩ := hrel
    have hbw := HB0.out.trans (hbel.mono HB0.out.size)
    have hwU := hbel.size
    obtain ⟨x0, x1, x2, x3, x4, x5⟩ := (HBox0.out.below hbel hWs).get
    by_cases hlt : k < n2
    · obtain ⟨bs, offs, z, rfl, hbs, hz, cz⟩ := h2.get hlt
      have q := (hbw.cell (p := ⟨bs, offs + k, none⟩) hbs).trans cz
      have hzp := hp z (List.mem_of_getElem? hz)
      obtain ⟨T, hT⟩ : ∃ T, pcF zs y z = T := ⟨_, rfl⟩
      have C := par_any A n c zs y z wr _ (h.below hbw) hzp.1 hn hzp.2 hy
      rw [hT] at C
      obtain ⟨D, hD⟩ : ∃ D, ((b.sites.take k).map (pcF zs y)).map (Value.int .i64) = D := ⟨_, rfl⟩
      have HD : Hid (((b.sites.take (k + 1)).map (pcF zs y)).map (Value.int .i64) = D ++ [.int .i64 T]) := Lib.hid (by rw [take_snoc hz, List.map_append, List.map_append, hD, ← hT]; rfl)
      rw [hD] at hown
      have HBl := Lib.hid hbel
      have HGr := Lib.hid (fun (w1 : World) (hg1 : (wr.alloc (.cells #[.int .i64 T] 3)).grownBy w1 v.ownBlock) => (HBl.out.alloc HBl.out.size (.cells #[.int .i64 T] 3)).grown hg1 (by simp; omega) (fun j hj => by have := (hown.lt j hj).1; omega))
      have e1 : k + 1 ≤ maxLen := by unfold maxLen; omega
      have e2 : (k + 1) * 8 ≤ 140737488355328 := by omega
      clear hz cz hT hD hbel h2 h hp hzp
      go_wp2_with fail
      refine C.mono ?_
      rintro e w2 ⟨rfl, rfl⟩
      clear C
      go_wp2_with (at_builtin; refine wpList_append_own _ rfl _ _ 24 rfl (w.heap.size + 1) 3 i0 (.int .i64 0) 1 8 Tryz.underlying24 HI.out.1 HI.out.2.1 HI.out.2.2.1 HI.out.2.2.2 rfl (by decide) _ _ _ rfl (hown.alloc _) ⟨wr.heap.size, 0, none⟩ 1 1 [.int .i64 T] rfl rfl (cell_one_new _ _ _) (fun x hx => by simp at hx; subst hx; rfl) e1 e2 (by simp; omega) ?_; intro v1 w1 hown1 hgrow1 hnil1; have HB1 := Lib.hid (HGr.out w1 hgrow1); have HO1 := Lib.hid hown1; clear x0 x1 x2 x3 x4 x5 q)
      go_roundw
      case rel => exact ⟨k + 1, _, by omega, by go_num, rfl, by rw [HD.out]; exact HO1.out, HB1.out⟩
      case measure => simp [intOf]; omega
    · obtain rfl : n2 = k := by omega
      rw [List.take_of_length_le (by rw [HL2.out]; exact Nat.le_refl _)] at hown
      have HR := Lib.hid (own_low (B := w.heap.size) hown (Nat.le_succ _))
      have HBw := Lib.hid hbw
      clear hown hbel
      go_wp2_with fail
      go_ret
      rw [HL2.out]
      exact ⟨_, rfl, HR.out, HBw.out⟩
end Go.Proofs.YtfjgapkjpmkplaaGreat.sio
end
section
namespace Go.Proofs.YtfjgapkjpmkplaaGreat.sd
open kit bg sg opn strs only hb sig isig un over gn nm inn ht gd im pt marks eqs hc hi hw hn rs br bm bw cf lf ib lw cl rt ix tg rl ed tp rtg lep rnp pm pl mb sb wb jo ek wk rk gv tm psp mrp mrs mri nd co ft uw nj sf mg
open su (ltS ltS_tri ltS_irr ltS_trans sortU sortU_mem sortU_len sortU_is sortU_pw names_ltS)
open Go.RowKit
set_option linter.unusedVariables false
theorem not_less {x y : ByteArray} (h : ¬ Op.bytesLess x.toList y.toList = true) : ¬ ltS x y := fun hl => h ((su.bl_lt _ _).2 hl)
theorem mrg_gen : ∀ (f : Nat) (a b : List ByteArray), a.length + b.length ≤ f → a.Pairwise ltS → b.Pairwise ltS → (∀ x, x ∈ (mrg f a b).1 ↔ x ∈ a ∨ x ∈ b) ∧ (mrg f a b).1.Pairwise ltS ∧ ((mrg f a b).2 = true ↔ ∃ x, x ∈ a ∧ x ∈ b)
  | f, [], b, _, _, hb => by
    rw [mrg_nil']
    exact ⟨fun x => by simp, hb, by simp⟩
  | f, x :: a, [], _, ha, _ => by
    rw [mrg_nil]
    exact ⟨fun z => by simp, ha, by simp⟩
  | 0, x :: a, y :: b, h, _, _ => by simp at h
  | f + 1, x :: a, y :: b, h, ha, hb => by
    obtain ⟨hxa, ha'⟩ := List.pairwise_cons.1 ha
    obtain ⟨hyb, hb'⟩ := List.pairwise_cons.1 hb
    simp only [List.length_cons] at h
    rw [mrg]
    by_cases h1 : Op.bytesLess x.toList y.toList = true
    · have hlt : ltS x y := (su.bl_lt _ _).1 h1
      obtain ⟨i1, i2, i3⟩ := mrg_gen f a (y :: b) (by simp only [List.length_cons]; omega) ha' hb
      rw [if_pos h1]
      have hxl : ∀ z, z ∈ y :: b → ltS x z := fun z hz => by
        rcases List.mem_cons.1 hz with e | hz
        · rw [e]; exact hlt
        · exact ltS_trans hlt (hyb z hz)
      refine ⟨fun z => ?_, List.pairwise_cons.2 ⟨fun z hz => ?_, i2⟩, ?_⟩
      · show z ∈ x :: _ ↔ _
        rw [List.mem_cons, i1, List.mem_cons (a := z) (b := x)]
        exact or_assoc.symm
      · rcases (i1 z).1 hz with h | h
        · exact hxa z h
        · exact hxl z h
      · show (mrg f a (y :: b)).2 = true ↔ _
        rw [i3]
        refine ⟨fun ⟨z, p, q⟩ => ⟨z, List.mem_cons_of_mem _ p, q⟩, fun ⟨z, p, q⟩ => ?_⟩
        rcases List.mem_cons.1 p with e | p
        · rw [e] at q
          exact absurd (hxl x q) (ltS_irr x)
        · exact ⟨z, p, q⟩
    · rw [if_neg h1]
      have hn1 := not_less h1
      by_cases h2 : Op.bytesLess y.toList x.toList = true
      · have hlt : ltS y x := (su.bl_lt _ _).1 h2
        obtain ⟨i1, i2, i3⟩ := mrg_gen f (x :: a) b (by simp only [List.length_cons]; omega) ha hb'
        rw [if_pos h2]
        have hyl : ∀ z, z ∈ x :: a → ltS y z := fun z hz => by
          rcases List.mem_cons.1 hz with e | hz
          · rw [e]; exact hlt
          · exact ltS_trans hlt (hxa z hz)
        refine ⟨fun z => ?_, List.pairwise_cons.2 ⟨fun z hz => ?_, i2⟩, ?_⟩
        · show z ∈ y :: _ ↔ _
          rw [List.mem_cons, i1, List.mem_cons (a := z) (b := y)]
          exact or_left_comm
        · rcases (i1 z).1 hz with h | h
          · exact hyl z h
          · exact hyb z h
        · show (mrg f (x :: a) b).2 = true ↔ _
          rw [i3]
          refine ⟨fun ⟨z, p, q⟩ => ⟨z, p, List.mem_cons_of_mem _ q⟩, fun ⟨z, p, q⟩ => ?_⟩
          rcases List.mem_cons.1 q with e | q
          · rw [e] at p
            exact absurd (hyl y p) (ltS_irr y)
          · exact ⟨z, p, q⟩
      · have hn2 := not_less h2
        have hxy : x = y := by
          by_cases e : x = y
          · exact e
          · exact absurd (ltS_tri x y hn1 e) hn2
        subst hxy
        obtain ⟨i1, i2, i3⟩ := mrg_gen f a (x :: b) (by simp only [List.length_cons]; omega) ha' hb
        rw [if_neg h2]
        refine ⟨fun z => ?_, i2, ?_⟩
        · show z ∈ (mrg f a (x :: b)).1 ↔ _
          rw [i1]
          simp only [List.mem_cons]
          constructor
          · rintro (h | h)
            · exact .inl (.inr h)
            · exact .inr h
          · rintro ((h | h) | h)
            · exact .inr (.inl h)
            · exact .inl h
            · exact .inr h
        · exact ⟨fun _ => ⟨x, List.mem_cons_self, List.mem_cons_self⟩, fun _ => rfl⟩
noncomputable def sdO (a b : Big) : List ByteArray := sortU (a.outer ++ b.outer)
open Classical in
noncomputable def apB (xs ys : List ByteArray) : Bool := decide (∀ x ∈ xs, x ∉ ys)
open Classical in
theorem ap_yes {xs ys : List ByteArray} (h : apB xs ys = true) : ∀ x ∈ xs, x ∉ ys := by
  unfold apB at h
  exact of_decide_eq_true h
open Classical in
theorem ap_no {xs ys : List ByteArray} (h : apB xs ys = false) : ∃ x, x ∈ xs ∧ x ∈ ys := by
  unfold apB at h
  have h := of_decide_eq_false h
  exact Classical.byContradiction fun hn => h fun x hx hy => hn ⟨x, hx, hy⟩
open Classical in
theorem ap_of {xs ys : List ByteArray} (h : ∀ x ∈ xs, x ∉ ys) : apB xs ys = true := by unfold apB; exact decide_eq_true h
open Classical in
theorem ap_not {xs ys : List ByteArray} {x : ByteArray} (h : x ∈ xs) (k : x ∈ ys) : apB xs ys = false := by unfold apB; exact decide_eq_false fun hn => hn x h k
theorem mrg_names {a b : Big} (ha : NamesP a.outer) (hb : NamesP b.outer) : mrg (a.outer.length + b.outer.length) a.outer b.outer = (sdO a b, !apB a.outer b.outer) := by
  obtain ⟨h1, h2, h3⟩ := mrg_gen (a.outer.length + b.outer.length) a.outer b.outer (Nat.le_refl _) (names_ltS ha) (names_ltS hb)
  have e1 : (mrg (a.outer.length + b.outer.length) a.outer b.outer).1 = sdO a b := sortU_is h2 (fun x => by rw [h1, List.mem_append])
  have e2 : (mrg (a.outer.length + b.outer.length) a.outer b.outer).2 = !apB a.outer b.outer := by
    cases hp : apB a.outer b.outer with
    | true =>
      cases hq : (mrg (a.outer.length + b.outer.length) a.outer b.outer).2 with
      | false => rfl
      | true =>
        obtain ⟨x, p, q⟩ := h3.1 hq
        exact absurd q (ap_yes hp x p)
    | false =>
      obtain ⟨x, p, q⟩ := ap_no hp
      rw [h3.2 ⟨x, p, q⟩]
      rfl
  rw [← e1, ← e2]
theorem sdO_len (a b : Big) : (sdO a b).length ≤ a.outer.length + b.outer.length := by
  have := sortU_len (a.outer ++ b.outer)
  rw [List.length_append] at this
  exact this
theorem sdO_mem {a b : Big} {s : ByteArray} (h : s ∈ sdO a b) : s ∈ a.outer ∨ s ∈ b.outer := by
  unfold sdO at h
  rw [sortU_mem, List.mem_append] at h
  exact h
noncomputable def lfS (a b : Big) : List Int := lkL 0 (a.edges + b.edges) a (sdO a b)
noncomputable def rgS (a b : Big) : List Int := lkL a.edges (a.edges + b.edges) b (sdO a b)
def pcS (a b : Big) : Int → Int := pcF (rtsF a.roots b.roots.toNat) a.nodes.length
noncomputable def wnA (a b : Big) : List Wr := (relB (lkF (lfS a b)) a).inner
noncomputable def wnB (a b : Big) : List Wr := (relB (lkF (rgS a b)) b).inner
noncomputable def sdB (a b : Big) (ws : List Wr) : Big :=
  ⟨a.roots + b.roots, (relB (lkF (lfS a b)) a).nodes ++ (plB (pcS a b) (relB (lkF (rgS a b)) b)).nodes, a.sites ++ b.sites.map (pcS a b), a.edges + b.edges, sdO a b, ws⟩
def insW (x : Wr) : List Wr → List Wr
  | [] => [x]
  | y :: l => if Op.bytesLess y.name.toList x.name.toList = true then y :: insW x l else x :: y :: l
def innW (xs ys : List Wr) : List Wr := ys.foldl (fun o x => insW x o) xs
theorem insW_perm (x : Wr) : ∀ l, (insW x l).Perm (x :: l)
  | [] => List.Perm.refl _
  | y :: l => by
    unfold insW
    split
    · exact ((insW_perm x l).cons y).trans (List.Perm.swap x y l)
    · exact List.Perm.refl _
theorem innW_perm (xs : List Wr) : ∀ ys, (innW xs ys).Perm (xs ++ ys) := fun ys => by
  unfold innW
  induction ys generalizing xs with
  | nil => rw [List.append_nil]; exact List.Perm.refl _
  | cons y ys ih =>
    rw [List.foldl_cons]
    refine (ih (insW y xs)).trans ?_
    refine ((insW_perm y xs).append_right ys).trans ?_
    exact List.perm_middle.symm
def leW (x y : Wr) : Prop := ¬ ltS y.name x.name
theorem insW_pw (x : Wr) : ∀ l, l.Pairwise leW → (insW x l).Pairwise leW
  | [], _ => by simp [insW]
  | y :: l, h => by
    obtain ⟨h1, h2⟩ := List.pairwise_cons.1 h
    unfold insW
    split
    · next hl =>
      have hl : ltS y.name x.name := (su.bl_lt _ _).1 hl
      refine List.pairwise_cons.2 ⟨fun z hz => ?_, insW_pw x l h2⟩
      rcases List.mem_cons.1 ((insW_perm x l).mem_iff.1 hz) with e | hz
      · rw [e]
        exact fun hh => ltS_irr _ (ltS_trans hl hh)
      · exact h1 z hz
    · next hl =>
      have hl := not_less hl
      refine List.pairwise_cons.2 ⟨fun z hz => ?_, h⟩
      rcases List.mem_cons.1 hz with e | hz
      · rw [e]; exact hl
      · intro hh
        by_cases e : y.name = x.name
        · exact h1 z hz (by rw [e]; exact hh)
        · have := ltS_tri _ _ hl e
          exact h1 z hz (ltS_trans hh this)
theorem innW_pw (xs : List Wr) (h : xs.Pairwise leW) : ∀ ys, (innW xs ys).Pairwise leW := fun ys => by
  unfold innW
  induction ys generalizing xs with
  | nil => exact h
  | cons y ys ih => exact ih (insW y xs) (insW_pw y xs h)
theorem srt_pw {ws : List Wr} (h : SortW ws) : ws.Pairwise leW := by
  rw [List.pairwise_iff_getElem]
  intro i j hi hj hij hl
  have := h i j ws[i] ws[j] hij (List.getElem?_eq_getElem hi) (List.getElem?_eq_getElem hj)
  rw [(su.bl_lt _ _).2 hl] at this
  cases this
theorem pw_same {r : Wr → Wr → Prop} (hirr : ∀ a, ¬ r a a) (has : ∀ a b, r a b → ¬ r b a) : ∀ (l l' : List Wr), l.Pairwise r → l'.Pairwise r → (∀ x, x ∈ l ↔ x ∈ l') → l = l'
  | [], [], _, _, _ => rfl
  | [], y :: l', _, _, h => absurd ((h y).2 List.mem_cons_self) (by simp)
  | y :: l, [], _, _, h => absurd ((h y).1 List.mem_cons_self) (by simp)
  | x :: l, y :: l', h1, h2, h => by
    obtain ⟨a1, b1⟩ := List.pairwise_cons.1 h1
    obtain ⟨a2, b2⟩ := List.pairwise_cons.1 h2
    have e : x = y := by
      rcases List.mem_cons.1 ((h x).1 List.mem_cons_self) with e | hx
      · exact e
      · rcases List.mem_cons.1 ((h y).2 List.mem_cons_self) with e | hy
        · exact e.symm
        · exact absurd (a1 y hy) (has _ _ (a2 x hx))
    subst e
    refine congrArg (x :: ·) (pw_same hirr has l l' b1 b2 (fun z => ⟨fun hz => ?_, fun hz => ?_⟩))
    · rcases List.mem_cons.1 ((h z).1 (List.mem_cons_of_mem _ hz)) with e | hz'
      · rw [e] at hz; exact absurd (a1 x hz) (hirr x)
      · exact hz'
    · rcases List.mem_cons.1 ((h z).2 (List.mem_cons_of_mem _ hz)) with e | hz'
      · rw [e] at hz; exact absurd (a2 x hz) (hirr x)
      · exact hz'
theorem pw_strict : ∀ {l : List Wr}, l.Pairwise leW → (l.map (·.name)).Nodup → l.Pairwise (fun x y => ltS x.name y.name)
  | [], _, _ => List.Pairwise.nil
  | x :: l, h, hd => by
    obtain ⟨h1, h2⟩ := List.pairwise_cons.1 h
    rw [List.map_cons, List.nodup_cons] at hd
    refine List.pairwise_cons.2 ⟨fun z hz => ?_, pw_strict h2 hd.2⟩
    have hne : z.name ≠ x.name := fun e => hd.1 (by rw [← e]; exact List.mem_map_of_mem hz)
    exact ltS_tri z.name x.name (h1 z hz) hne
theorem names_nodup {ss : List ByteArray} (h : NamesP ss) : ss.Nodup := by
  have := names_ltS h
  exact this.imp (fun {a b} hl e => by rw [e] at hl; exact ltS_irr _ hl)
theorem wnA_names (a b : Big) : (wnA a b).map (·.name) = nms a.inner := by unfold wnA relB nms; rw [List.map_map]; rfl
theorem wnB_names (a b : Big) : (wnB a b).map (·.name) = nms b.inner := by unfold wnB relB nms; rw [List.map_map]; rfl
theorem wn_pw {ws : List Wr} (h : NamesP (ws.map (·.name))) : ws.Pairwise leW := by
  have h := names_ltS h
  rw [List.pairwise_map] at h
  exact h.imp (fun {x y} hl hh => ltS_irr _ (ltS_trans hl hh))
noncomputable def sdW (a b : Big) : List Wr := innW (wnA a b) (wnB a b)
theorem sdW_is {cs : List Ctl} {a b : Big} {ws : List Wr} (ha : bigB cs a = true) (hb : bigB cs b = true) (hp : apB (nms a.inner) (nms b.inner) = true) (hperm : ws.Perm (wnA a b ++ wnB a b)) (hs : SortW ws) : ws = sdW a b := by
  have hna : NamesP (nms a.inner) := (big_of ha).2.2.2.1
  have hnb : NamesP (nms b.inner) := (big_of hb).2.2.2.1
  have hnd : ((wnA a b ++ wnB a b).map (·.name)).Nodup := by
    rw [List.map_append, wnA_names, wnB_names, List.nodup_append]
    exact ⟨names_nodup hna, names_nodup hnb, fun x hx y hy e => ap_yes hp x hx (by rw [e]; exact hy)⟩
  have hpi := innW_perm (wnA a b) (wnB a b)
  refine pw_same (r := fun x y => ltS x.name y.name) (fun x => ltS_irr _) (fun x y h k => ltS_irr _ (ltS_trans h k)) ws (sdW a b) (pw_strict (srt_pw hs) ?_) (pw_strict (innW_pw _ (wn_pw (by rw [wnA_names]; exact hna)) _) ?_) (fun x => ?_)
  · exact ((hperm.map (·.name)).nodup_iff).2 hnd
  · exact ((hpi.map (·.name)).nodup_iff).2 hnd
  · rw [hperm.mem_iff]
    exact hpi.mem_iff.symm
theorem sd_bad {cs : List Ctl} {a b : Big} {ws : List Wr} (hp : apB (nms a.inner) (nms b.inner) = false) (hperm : ws.Perm (wnA a b ++ wnB a b)) : bigB cs (sdB a b ws) = false := by
  refine big_false fun h => ?_
  have hn : NamesP (ws.map (·.name)) := h.2.2.2.1
  have hd := names_nodup hn
  have hd2 := ((hperm.map (·.name)).nodup_iff).1 hd
  rw [List.map_append, wnA_names, wnB_names, List.nodup_append] at hd2
  obtain ⟨x, p, q⟩ := ap_no hp
  exact hd2.2.2 x p x q rfl
noncomputable def ppP (cs : List Ctl) (a b : Big) : Bool := bigB cs a && bigB cs b && apB (nms a.inner) (nms b.inner)
noncomputable def ppQ (cs : List Ctl) (a b : Big) : Bool := ppP cs a b && bigB cs (sdB a b (sdW a b))
noncomputable def ppR (cs : List Ctl) (a b : Big) : Big := if ppP cs a b = true then giveR cs (sdB a b (sdW a b)) else zeroBig
theorem pp_no {cs : List Ctl} {a b : Big} (h : ppP cs a b = false) : ppQ cs a b = false ∧ ppR cs a b = zeroBig := by
  unfold ppQ ppR
  rw [h]
  exact ⟨rfl, if_neg (by decide)⟩
theorem pp_yes {cs : List Ctl} {a b : Big} (h : ppP cs a b = true) : ppQ cs a b = bigB cs (sdB a b (sdW a b)) ∧ ppR cs a b = giveR cs (sdB a b (sdW a b)) := by
  unfold ppQ ppR
  rw [h]
  exact ⟨rfl, if_pos rfl⟩
theorem pp_impl {cs : List Ctl} {a b : Big} {ws : List Wr} (ha : bigB cs a = true) (hb : bigB cs b = true) (hperm : ws.Perm (wnA a b ++ wnB a b)) (hs : SortW ws) : bigB cs (sdB a b ws) = ppQ cs a b ∧ giveR cs (sdB a b ws) = ppR cs a b := by
  cases hp : apB (nms a.inner) (nms b.inner) with
  | true =>
    have h := pp_yes (cs := cs) (a := a) (b := b) (by unfold ppP; rw [ha, hb, hp]; rfl)
    rw [h.1, h.2, sdW_is ha hb hp hperm hs]
    exact ⟨rfl, rfl⟩
  | false =>
    have h := pp_no (cs := cs) (a := a) (b := b) (by unfold ppP; rw [ha, hb, hp]; rfl)
    have hb := sd_bad (cs := cs) hp hperm
    rw [h.1, h.2, hb]
    refine ⟨rfl, ?_⟩
    unfold giveR
    rw [hb]
    exact if_neg (by decide)
theorem ppR_len (cs : List Ctl) (a b : Big) : bigMk (ppR cs a b) ≤ 1048576 := by
  unfold ppR
  split
  · exact give_len (fun h => big_mk h)
  · exact zero_len
theorem pcS_in {cs : List Ctl} {a b : Big} (ha : bigB cs a = true) (hb : bigB cs b = true) {q : Int} (hq : -b.roots ≤ q ∧ q ≤ 8) : -1000 ≤ pcS a b q ∧ pcS a b q ≤ 1000 := by
  have hya := sizes_of (big_of ha).2.1
  have hyb := sizes_of (big_of hb).2.1
  refine pc_in (fun z hz => ?_) ⟨by omega, by omega⟩ (by omega)
  unfold rtsF at hz
  obtain ⟨i, hi, rfl⟩ := List.mem_map.1 hz
  have := List.mem_range.1 hi
  omega
theorem sd_tame {cs : List Ctl} {a b : Big} {ws : List Wr} (ha : bigB cs a = true) (hb : bigB cs b = true) (hSa : BigS a) (hSb : BigS b) (hperm : ws.Perm (wnA a b ++ wnB a b)) : Tame (sdB a b ws) := by
  have hya := sizes_of (big_of ha).2.1
  have hyb := sizes_of (big_of hb).2.1
  have ta := tame_good ha hSa
  have tb := tame_good hb hSb
  have hol := sdO_len a b
  have hwl := hperm.length_eq
  unfold sdB
  refine tame_two ha hb hSa hSb (by omega) (by omega) (fun l hl => ?_) (fun l hl => ?_) (fun q hq => pcS_in ha hb hq) (by rw [List.length_append, List.length_map]; omega) (fun z hz => ?_) (by omega) (fun u hu => ?_) ?_ (fun x hx => ?_)
  · have := lkL_in (z := 0) (E := a.edges + b.edges) (ou := sdO a b) ha ⟨by decide, by decide⟩ ⟨by omega, by omega⟩ (by omega) hl
    unfold lfS
    omega
  · have := lkL_in (z := a.edges) (E := a.edges + b.edges) (ou := sdO a b) hb ⟨by omega, by omega⟩ ⟨by omega, by omega⟩ (by omega) hl
    unfold rgS
    omega
  · rcases List.mem_append.1 hz with h | h
    · exact ta.st z h
    · obtain ⟨y, hy, rfl⟩ := List.mem_map.1 h
      exact pcS_in ha hb ((par_le hb).2 y hy)
  · rcases sdO_mem hu with h | h
    · exact ta.on u h
    · exact tb.on u h
  · rw [hwl, List.length_append]
    unfold wnA wnB relB
    simp only [List.length_map]
    omega
  · rcases List.mem_append.1 (hperm.mem_iff.1 hx) with h | h
    · obtain ⟨y, hy, rfl⟩ := List.mem_map.1 (show x ∈ a.inner.map _ from h)
      have := lkL_in (z := 0) (E := a.edges + b.edges) (ou := sdO a b) ha ⟨by decide, by decide⟩ ⟨by omega, by omega⟩ (by omega) ((big_lks ha).2 y hy)
      exact ⟨(ta.iw y hy).1, by show -1000 ≤ lkF (lfS a b) y.link; unfold lfS; omega, by show lkF (lfS a b) y.link ≤ 1000; unfold lfS; omega⟩
    · obtain ⟨y, hy, rfl⟩ := List.mem_map.1 (show x ∈ b.inner.map _ from h)
      have := lkL_in (z := a.edges) (E := a.edges + b.edges) (ou := sdO a b) hb ⟨by omega, by omega⟩ ⟨by omega, by omega⟩ (by omega) ((big_lks hb).2 y hy)
      exact ⟨(tb.iw y hy).1, by show -1000 ≤ lkF (rgS a b) y.link; unfold rgS; omega, by show lkF (rgS a b) y.link ≤ 1000; unfold rgS; omega⟩
end Go.Proofs.YtfjgapkjpmkplaaGreat.sd
end
section
namespace Go.Proofs.YtfjgapkjpmkplaaGreat.ap
open kit bg sg opn strs only hb sig isig un over gn nm inn ht gd im pt marks eqs hc hi hw hn rs br bm bw cf lf ib lw cl rt ix sd
open Go.RowKit
set_option linter.unusedVariables false
set_option linter.unusedSimpArgs false
open Classical in
theorem in_of {ss : List ByteArray} {s : ByteArray} (h : inB ss s = true) : s ∈ ss := by unfold inB at h; exact of_decide_eq_true h
open Classical in
theorem not_of {ss : List ByteArray} {s : ByteArray} (h : inB ss s = false) : s ∉ ss := by unfold inB at h; exact of_decide_eq_false h
set_option maxHeartbeats 800000 in
theorem apr_any (A B : Option Addr) (n c m d B1 B2 : Nat) (xs ys : List ByteArray) (w : World) (hA : SR w B1 A n (xs.map Value.string)) (hB : SR w B2 B m (ys.map Value.string)) (hn : n ≤ 1048576) (hm : m ≤ 1048576) :
    Calls Tryz.prog 114 #[.slice A n c, .slice B m d] w fun e w' => e = .returned (.bool (apB xs ys)) ∧ w = w' := by
  have HL := Lib.hid hA.strlen
  have HB := Lib.hid hB
  clear hB
  go_enter Tryz.func114, Tryz.ntmps114
  go_wp2_with fail
  go_loopw [5] (fun i wr => ∃ k : Nat, k ≤ n ∧ i = .int .i64 k ∧ (∀ (j : Nat) u, j < k → xs[j]? = some u → u ∉ ys) ∧ w = wr) (fun i _ => n - (intOf i).toNat)
  case atStart => exact ⟨0, Nat.zero_le _, rfl, fun j u hj => absurd hj (by omega), rfl⟩
  case round =>
    obtain ⟨k, hk, rfl, hno, rfl⟩ := hrel
    have HNo := Lib.hid hno
    clear hno
    by_cases hlt : k < n
    · obtain ⟨b, off, u, rfl, hb, hx, hc⟩ := hA.str hlt
      have CA := l2At_any B m d ys u w _ HB.out hm
      have hI := ixF_inB ys u
      obtain ⟨r, hrr⟩ : ∃ r, ixF ys u = r := ⟨_, rfl⟩
      rw [hrr] at CA hI
      cases hin : inB ys u with
      | true =>
        rw [hin] at hI
        have hr0 : r ≥ 0 := of_decide_eq_true hI
        have HR : Hid (apB xs ys = false) := Lib.hid (ap_not (List.mem_of_getElem? hx) (in_of hin))
        clear hrr hx hin
        go_wp2_with fail
        refine CA.mono ?_
        rintro e w1 ⟨rfl, rfl⟩
        clear CA
        go_wp2_with fail
        go_ret
        exact ⟨by rw [HR.out]; rfl, rfl⟩
      | false =>
        rw [hin] at hI
        have hr0 : ¬ r ≥ 0 := of_decide_eq_false hI
        have HN : Hid (∀ (j : Nat) v, j < k + 1 → xs[j]? = some v → v ∉ ys) := Lib.hid fun j v hj hv => by
          by_cases e : j = k
          · subst e
            rw [hx] at hv
            injection hv with hv
            subst hv
            exact not_of hin
          · exact HNo.out j v (by omega) hv
        clear hrr hx hin
        go_wp2_with fail
        refine CA.mono ?_
        rintro e w1 ⟨rfl, rfl⟩
        clear CA
        go_wp2_with fail
        go_roundw
        case rel => exact ⟨k + 1, by omega, by go_num, HN.out, by first | trivial | rfl⟩
        case measure => simp [intOf]; omega
    · have HF : Hid (apB xs ys = true) := Lib.hid (ap_of fun x hx => by
        obtain ⟨j, hj⟩ := List.mem_iff_getElem?.1 hx
        exact HNo.out j x (by have := (List.getElem?_eq_some_iff.1 hj).1; have := HL.out; omega) hj)
      obtain rfl : n = k := by omega
      go_wp2_with fail
      go_ret
      exact ⟨by rw [HF.out]; rfl, rfl⟩
end Go.Proofs.YtfjgapkjpmkplaaGreat.ap
end
section
namespace Go.Proofs.YtfjgapkjpmkplaaGreat.ux
open kit bg sg opn strs only hb sig isig un over gn nm inn ht gd im pt marks eqs hc hi hw hn rs br bm bw cf lf ib lw cl rt ix tg rl ed tp rtg uw oc
open Go.RowKit
set_option linter.unusedVariables false
set_option linter.unusedSimpArgs false
theorem unc_any (t : Tgt) (w : World) : Calls Tryz.prog 175 #[tgV t] w fun e w' => e = .returned (tgV t) ∧ Below w.heap.size w w' := by
  have hb1 := (Below.refl w.heap.size w).alloc (Nat.le_refl _) (.cells #[.int .i64 t.edge, .string t.name] 160)
  have hb2 := hb1.alloc hb1.size (.cells #[.int .i64 t.edge, .string t.name] 160)
  obtain ⟨z0, z1⟩ := (two_new (w.alloc (.cells #[.int .i64 t.edge, .string t.name] 160)) t).get
  clear hb1
  obtain ⟨te, tn⟩ := t
  unfold tgV
  dsimp only at z0 z1 hb2 ⊢
  go_enter Tryz.func175, Tryz.ntmps175
  go_wp2_with fail
  first
  | (go_ret; exact ⟨rfl, Below.refl _ _⟩)
  | exact bodyPost_ret (v := .agg #[.int .i64 te, .string tn]) (by simp [results, Tryz.results175, go_sem, z0, z1]) rfl ⟨rfl, hb2⟩
theorem beh_any (k : Int) (w : World) : Calls Tryz.prog 176 #[.int .i64 k] w fun e w' => e = .returned (.func (.func 231) #[] #[.pointer (some ⟨w.heap.size, 0, none⟩)]) ∧ w'.cell? ⟨w.heap.size, 0, none⟩ = some (.int .i64 k) ∧ w.heap.size < w'.heap.size ∧ Below w.heap.size w w' := by
  have hb1 := (Below.refl w.heap.size w).alloc (Nat.le_refl _) (.cells #[.int .i64 k] 3)
  have hc := rta.one_cell w (.int .i64 k) 3
  obtain ⟨U, hU⟩ : ∃ U, w.alloc (.cells #[.int .i64 k] 3) = U := ⟨_, rfl⟩
  have hUz : U.heap.size = w.heap.size + 1 := by rw [← hU, World.size_alloc]
  rw [hU] at hb1 hc
  have HR := Lib.hid (And.intro hc (And.intro (show w.heap.size < U.heap.size by omega) hb1))
  have HU := Lib.hid hU
  clear hb1 hc hU hUz
  go_enter Tryz.func176, Tryz.ntmps176
  go_wp2_with fail
  rw [HU.out]
  (try go_wp2_with fail)
  go_ret
  exact ⟨rfl, HR.out⟩
set_option maxRecDepth 20000 in
set_option maxHeartbeats 1600000 in
theorem beh1_any (k : Int) (u : Tgt) (γ : Nat) (w : World) (hk : w.cell? ⟨γ, 0, none⟩ = some (.int .i64 k)) (hγ : γ < w.heap.size) (hkk : -1000 ≤ k ∧ k ≤ 1000) (hu : -1000 ≤ u.edge ∧ u.edge ≤ 1000) :
    Calls Tryz.prog 231 #[tgV u, .pointer (some ⟨γ, 0, none⟩)] w fun e' w' => e' = .returned (tgV (behF k u)) ∧ Below w.heap.size w w' := by
  obtain ⟨ue, un⟩ := u
  obtain ⟨hk0, hk1⟩ := hkk
  have hb1 := (Below.refl w.heap.size w).alloc (Nat.le_refl _) (.cells #[.int .i64 ue, .string un] 160)
  obtain ⟨U, hU⟩ : ∃ U, w.alloc (.cells #[.int .i64 ue, .string un] 160) = U := ⟨_, rfl⟩
  have hUz : U.heap.size = w.heap.size + 1 := by rw [← hU, World.size_alloc]
  have hTu : TwoAt U w.heap.size ⟨ue, un⟩ := by rw [← hU]; exact two_new w ⟨ue, un⟩
  rw [hU] at hb1
  have hb2 := (Below.refl U.heap.size U).alloc (Nat.le_refl _) (.cells #[.int .i64 0, .string ⟨#[]⟩] 160)
  have hTz := two_new U ⟨0, ⟨#[]⟩⟩
  obtain ⟨V, hV⟩ : ∃ V, U.alloc (.cells #[.int .i64 0, .string ⟨#[]⟩] 160) = V := ⟨_, rfl⟩
  have hVz : V.heap.size = w.heap.size + 2 := by rw [← hV, World.size_alloc, hUz]
  dsimp only at hTz
  rw [hV] at hb2 hTz
  rw [hUz] at hTz
  have hTv := hTu.on hb2
  have hbV := hb1.trans (hb2.mono hb1.size)
  have CE := isE_any ⟨ue, un⟩ V
  have hce := (hbV.cell (p := ⟨γ, 0, none⟩) hγ).trans hk
  have HUq := Lib.hid hU
  have HVq := Lib.hid hV
  have HTv := Lib.hid hTv
  have HTz := Lib.hid hTz
  have HbV := Lib.hid hbV
  obtain ⟨r0, r1⟩ := hTv.get
  dsimp only at r0 r1 hu
  obtain ⟨hu0, hu1⟩ := hu
  unfold tgV at CE
  dsimp only at CE
  have X : Hid (V.cell? ⟨γ, 0, none⟩ = some (.int .i64 k)) := Lib.hid hce
  clear hU hV hb1 hb2 hTu hTv hTz hbV hk hce
  rw [← HVq.out, ← HUq.out] at r0 r1
  cases hE : isE ⟨ue, un⟩ with
  | false =>
    rw [hE] at CE
    rw [behF_name hE]
    unfold tgV
    dsimp only
    go_enter Tryz.func231, Tryz.ntmps231
    go_wp2_with fail
    rw [HUq.out, HVq.out]
    refine CE.mono ?_
    rintro e1 w1 ⟨rfl, hb⟩
    have HT1 := (HTz.out.on hb).put (u := ⟨ue, un⟩)
    have HU1 := (HTv.out.on hb)
    obtain ⟨q0, q1⟩ := HU1.get
    obtain ⟨p0, p1⟩ := (HTz.out.on hb).get
    obtain ⟨f0, f1⟩ := (HTz.out.on hb).fz
    have HB1 := Lib.hid (HbV.out.trans (hb.mono HbV.out.size))
    have HZ := Lib.hid HT1.get
    dsimp only at q0 q1 p0 p1
    clear CE r0 r1 HU1 HT1 hb
    go_wp2_with fail
    obtain ⟨z0, z1⟩ := HZ.out
    try dsimp only at z0 z1
    exact bodyPost_ret (v := .agg #[.int .i64 ue, .string un]) (by simp [results, Tryz.results231, go_sem, z0, z1]) rfl ⟨rfl, (HB1.out.setCell (p := ⟨w.heap.size + 1, 0, none⟩) (Nat.le_succ _) _).setCell (p := ⟨w.heap.size + 1, 1, none⟩) (Nat.le_succ _) _⟩
  | true =>
    rw [hE] at CE
    rw [behF_edge hE]
    have hw1 : wrap64 (ue + k) = ue + k := by unfold wrap64; omega
    unfold tgV
    dsimp only
    go_enter Tryz.func231, Tryz.ntmps231
    go_wp2_with fail
    rw [HUq.out, HVq.out]
    refine CE.mono ?_
    rintro e1 w1 ⟨rfl, hb⟩
    have HUe := two_edge (HTv.out.on hb) (ue + k)
    have HZe := two_far (HTz.out.on hb) (show w.heap.size + 1 ≠ w.heap.size by omega) (.int .i64 (ue + k))
    have HT1 := HZe.put (u := ⟨ue + k, un⟩)
    obtain ⟨q0, q1⟩ := (HTv.out.on hb).get
    obtain ⟨g0, g1⟩ := (HTv.out.on hb).fz
    obtain ⟨q2, q3⟩ := HUe.get
    obtain ⟨p0, p1⟩ := HZe.get
    obtain ⟨f0, f1⟩ := HZe.fz
    have hce1 := (hb.cell (p := ⟨γ, 0, none⟩) (by dsimp only; omega)).trans X.out
    have HB1 := Lib.hid ((HbV.out.trans (hb.mono HbV.out.size)).setCell (p := ⟨w.heap.size, 0, none⟩) (Nat.le_refl _) (.int .i64 (ue + k)))
    have HZ := Lib.hid HT1.get
    dsimp only at q0 q1 q2 q3 p0 p1
    clear CE r0 r1 HT1 HUe HZe hb
    go_wp2_with fail
    obtain ⟨z0, z1⟩ := HZ.out
    try dsimp only at z0 z1
    exact bodyPost_ret (v := .agg #[.int .i64 (ue + k), .string un]) (by simp [results, Tryz.results231, go_sem, z0, z1]) rfl ⟨rfl, (HB1.out.setCell (p := ⟨w.heap.size + 1, 0, none⟩) (Nat.le_succ _) _).setCell (p := ⟨w.heap.size + 1, 1, none⟩) (Nat.le_succ _) _⟩
end Go.Proofs.YtfjgapkjpmkplaaGreat.ux
end
section
namespace Go.Proofs.YtfjgapkjpmkplaaGreat.sh
open kit bg sg opn strs only hb sig isig un over gn nm inn ht gd im pt marks eqs hc hi hw hn rs br bm bw cf lf ib lw cl rt ix tg rl ed tp rtg uw ux nj cg cc rk nk wk ek tm gv lep mrp mri mrs pl ft co sd sf mb sb wb
open Go.RowKit
set_option linter.unusedVariables false
set_option linter.unusedSimpArgs false
set_option maxRecDepth 20000 in
set_option maxHeartbeats 1600000 in
theorem sb1_any (R r : Int) (a1 a2 a3 a4 a5 : Value) (β : Nat) (w : World) (hx : BoxAt w β 36 (.int .i64 R) a1 a2 a3 a4 a5) (hR : 0 ≤ R ∧ R ≤ 4) (hr : 0 ≤ r ∧ r ≤ 4) :
    Calls Tryz.prog 190 #[.int .i64 r, .pointer (some ⟨β, 0, none⟩)] w fun e w' => e = .returned (.int .i64 (-1 - (R + r))) ∧ Below w.heap.size w w' := by
  obtain ⟨hR0, hR1⟩ := hR
  obtain ⟨hr0, hr1⟩ := hr
  have HC := Lib.hid (por_any (R + r) w (by omega))
  have hw1 : wrap64 (R + r) = R + r := by unfold wrap64; omega
  have hb := Below.refl w.heap.size w
  obtain ⟨x0, x1, x2, x3, x4, x5⟩ := hx.get
  go_enter Tryz.func190, Tryz.ntmps190
  go_wp2_with fail
  refine HC.out.mono ?_
  rintro e w1 ⟨rfl, rfl⟩
  go_wp2_with fail
  go_ret
  exact ⟨rfl, hb⟩
theorem wcells_app (xs ys : List Wr) : wcells (xs ++ ys) = wcells xs ++ wcells ys := by
  refine List.ext_getElem? (fun t => ?_)
  by_cases h : t < xs.length * 2
  · rw [List.getElem?_append_left (by rw [wcells_len]; exact h)]
    unfold wcells
    rw [cells_get h, cells_get (by rw [List.length_append]; omega)]
    unfold wic
    rw [List.getElem?_append_left (by omega)]
  · obtain ⟨k, rfl⟩ : ∃ k, t = xs.length * 2 + k := ⟨t - xs.length * 2, by omega⟩
    rw [List.getElem?_append_right (by rw [wcells_len]; omega), wcells_len, Nat.add_sub_cancel_left]
    by_cases h2 : k < ys.length * 2
    · unfold wcells
      rw [cells_get h2, cells_get (by rw [List.length_append]; omega)]
      unfold wic
      rw [show (xs.length * 2 + k) / 2 = xs.length + k / 2 by omega, show (xs.length * 2 + k) % 2 = k % 2 by omega, List.getElem?_append_right (by omega), Nat.add_sub_cancel_left]
    · rw [List.getElem?_eq_none (by rw [wcells_len, List.length_append]; omega), List.getElem?_eq_none (by rw [wcells_len]; omega)]
theorem concatW_two {w : World} {Av A B : Option Addr} {cv c d lo hi lo2 hi2 : Nat} {xs ys : List Wr} (hV : SR w w.heap.size Av 2 [.slice A xs.length c, .slice B ys.length d]) (ha : RowR w lo hi 139 2 A xs.length c (wic xs)) (hb : RowR w lo2 hi2 139 2 B ys.length d (wic ys)) (hn : xs.length ≤ 1000) (hm : ys.length ≤ 1000) :
    Calls Tryz.prog 239 #[.slice Av 2 cv] w fun e w' => ∃ A' c', e = .returned (.slice A' (xs.length + ys.length) c') ∧ w'.ownsRow w.heap.size 139 2 (.slice A' (xs.length + ys.length) c') (xs.length + ys.length) (wcells (xs ++ ys)) ∧ Below w.heap.size w w' := by
  have h := concatW_any Av 2 cv (xs.length + ys.length) [.slice A xs.length c, .slice B ys.length d] [wcells xs, wcells ys] w hV
    (partsK_two (row_sr ha) (nil0 ha) (one_cells (one_wic xs)) (row_sr hb) (nil0 hb) (one_cells (one_wic ys))) rfl (by simp [wcells_len]; omega) (by omega) (by omega)
  refine h.mono ?_
  rintro e w' ⟨v, rfl, hown, hbel⟩
  obtain ⟨A', c', rfl, -⟩ := rowR_owns hown
  refine ⟨A', c', rfl, ?_, hbel⟩
  rw [wcells_app]
  have h2 : ([wcells xs, wcells ys] : List (List Value)).flatten = wcells xs ++ wcells ys := by simp
  rw [h2] at hown
  exact hown
theorem icells_eq (xs : List Int) : cellsOf (xs.length * 1) (iat xs) = xs.map (Value.int .i64) := by
  refine List.ext_getElem? (fun t => ?_)
  rw [Nat.mul_one, List.getElem?_map]
  by_cases h : t < xs.length
  · rw [cells_get h, List.getElem?_eq_getElem h]
    rw [iat_of (List.getElem?_eq_getElem h)]
    rfl
  · rw [List.getElem?_eq_none (by rw [cells_len]; omega), List.getElem?_eq_none (by omega)]
    rfl
theorem concatI_two {w : World} {Av A B : Option Addr} {cv c d lo hi lo2 hi2 : Nat} {xs ys : List Int} (hV : SR w w.heap.size Av 2 [.slice A xs.length c, .slice B ys.length d]) (ha : RowR w lo hi 3 1 A xs.length c (iat xs)) (hb : RowR w lo2 hi2 3 1 B ys.length d (iat ys)) (hn : xs.length ≤ 1000) (hm : ys.length ≤ 1000) :
    Calls Tryz.prog 191 #[.slice Av 2 cv] w fun e w' => ∃ A' c', e = .returned (.slice A' (xs.length + ys.length) c') ∧ RowR w' w.heap.size w'.heap.size 3 1 A' (xs.length + ys.length) c' (iat (xs ++ ys)) ∧ Below w.heap.size w w' := by
  have h := concatI_any Av 2 cv (xs.length + ys.length) [.slice A xs.length c, .slice B ys.length d] [cellsOf (xs.length * 1) (iat xs), cellsOf (ys.length * 1) (iat ys)] w hV
    (partsK_two (row_sr ha) (nil0 ha) (one_cells (fun x _ => one_iat xs x)) (row_sr hb) (nil0 hb) (one_cells (fun x _ => one_iat ys x))) rfl (by simp [cells_len]) (by omega) (by omega)
  refine h.mono ?_
  rintro e w' ⟨v, rfl, hown, hbel⟩
  have h2 : ([cellsOf (xs.length * 1) (iat xs), cellsOf (ys.length * 1) (iat ys)] : List (List Value)).flatten = (xs ++ ys).map (Value.int .i64) := by
    rw [icells_eq, icells_eq, List.map_append]
    simp
  rw [h2] at hown
  obtain ⟨A', c', e2, hr⟩ := ints_owned hown
  rw [List.length_append] at e2 hr
  exact ⟨A', c', by rw [e2], hr, hbel⟩
theorem pl_congr {f g : Int → Int} {b : Big} (h1 : ∀ x ∈ b.nodes, f x.parent = g x.parent) (h2 : ∀ z ∈ b.sites, f z = g z) : plB f b = plB g b := by
  unfold plB
  rw [List.map_congr_left (fun x hx => by rw [h1 x hx]), List.map_congr_left h2]
theorem pc_side {a b : Big} {p : Int} (hR : 0 ≤ b.roots) (hp : -b.roots ≤ p) : toF (fun r => -1 - (a.roots + r)) a.nodes.length p = pcS a b p := by
  unfold toF pcS pcF
  by_cases h : p < 0
  · rw [if_pos h, if_pos h, List.getD_eq_getElem?_getD, rts_get (show (-1 - p).toNat < b.roots.toNat by omega)]
    show -1 - (a.roots + (-1 - p)) = -1 - a.roots - ((-1 - p).toNat : Int)
    omega
  · rw [if_neg h, if_neg h, Int.add_comm]
theorem sd_parts {cs : List Ctl} {a b : Big} (ws : List Wr) (ha : bigB cs a = true) (hb : bigB cs b = true) :
    (⟨a.roots + b.roots, (reB a (fun t => t) (a.edges + b.edges) (sdO a b)).nodes ++ (plB (toF (fun r => -1 - (a.roots + r)) a.nodes.length) (reB b (behF a.edges) (a.edges + b.edges) (sdO a b))).nodes, (reB a (fun t => t) (a.edges + b.edges) (sdO a b)).sites ++ (plB (toF (fun r => -1 - (a.roots + r)) a.nodes.length) (reB b (behF a.edges) (a.edges + b.edges) (sdO a b))).sites, a.edges + b.edges, sdO a b, ws⟩ : Big) = sdB a b ws := by
  have hyb := sizes_of (big_of hb).2.1
  have hpl := par_le hb
  have e : plB (toF (fun r => -1 - (a.roots + r)) a.nodes.length) (reB b (behF a.edges) (a.edges + b.edges) (sdO a b)) = plB (pcS a b) (reB b (behF a.edges) (a.edges + b.edges) (sdO a b)) := by
    refine pl_congr (fun x hx => ?_) (fun z hz => ?_)
    · obtain ⟨y, hy, rfl⟩ := List.mem_map.1 (show x ∈ b.nodes.map _ from hx)
      exact pc_side (by omega) (hpl.1 y hy).1
    · exact pc_side (by omega) (hpl.2 z hz).1
  rw [e]
  unfold reB
  rw [above_eq ha, beh_eq hb]
  rfl
theorem sd_inner {cs : List Ctl} {a b : Big} (ha : bigB cs a = true) (hb : bigB cs b = true) (F : Int → Int) : (reB a (fun t => t) (a.edges + b.edges) (sdO a b)).inner = wnA a b ∧ (plB F (reB b (behF a.edges) (a.edges + b.edges) (sdO a b))).inner = wnB a b := by
  unfold reB
  rw [above_eq ha, beh_eq hb]
  exact ⟨rfl, rfl⟩
theorem rs_tame {cs : List Ctl} {a b : Big} (ha : bigB cs a = true) (hb : bigB cs b = true) (hSa : BigS a) (hSb : BigS b) : Tame (reB b (behF a.edges) (a.edges + b.edges) (sdO a b)) := by
  have hya := sizes_of (big_of ha).2.1
  have hyb := sizes_of (big_of hb).2.1
  have ta := tame_good ha hSa
  have tb := tame_good hb hSb
  have hol := sdO_len a b
  refine tame_rk hb hSb (fun l hl => ?_) (by omega) (by omega) (fun u hu => ?_)
  · rw [reL_beh (by omega) (big_of hb).2.2.1 hl]
    have := lkL_in (z := a.edges) (E := a.edges + b.edges) (ou := sdO a b) hb ⟨by omega, by omega⟩ ⟨by omega, by omega⟩ (by omega) hl
    omega
  · rcases sdO_mem hu with h | h
    · exact ta.on u h
    · exact tb.on u h
end Go.Proofs.YtfjgapkjpmkplaaGreat.sh
end
section
namespace Go.Proofs.YtfjgapkjpmkplaaGreat.mw
open kit bg sg opn strs only hb sig isig un over gn nm inn ht gd im pt marks eqs hc hi hw hn rs br bm bw cf lf ib lw cl rt ix tg rl ed tp rtg uw ux nj cg cc rk nk wk ek tm gv lep mrp mri mrs pl ft co sd sf sh mb sb wb
open Go.RowKit
set_option linter.unusedVariables false
set_option linter.unusedSimpArgs false
set_option maxHeartbeats 3200000 in
theorem mw_any {w : World} {A B : Option Addr} {c d lo hi lo2 hi2 : Nat} {xs ys : List Wr} (ha : RowR w lo hi 139 2 A xs.length c (wic xs)) (hb : RowR w lo2 hi2 139 2 B ys.length d (wic ys)) (hx : xs.length ≤ 100) (hy : ys.length ≤ 100) :
    Calls Tryz.prog 192 #[.slice A xs.length c, .slice B ys.length d] w fun e w' => ∃ A' c' ws, e = .returned (.slice A' (xs.length + ys.length) c') ∧ ws.Perm (xs ++ ys) ∧ SortW ws ∧ ws.length = xs.length + ys.length ∧ RowR w' w.heap.size w'.heap.size 139 2 A' (xs.length + ys.length) c' (wic ws) ∧ Below w.heap.size w w' := by
  have hsv := sr_vals2 w [Value.slice A xs.length c, Value.slice B ys.length d] 34
  have hb9a := (Below.refl w.heap.size w).alloc (Nat.le_refl _) (.cells #[Value.slice A xs.length c, Value.slice B ys.length d] 34)
  have C9 := concatW_two (cv := 2) hsv (ha.on hb9a) (hb.on hb9a) (by omega) (by omega)
  have hlo9 := hb9a.size
  have hn9 : xs.length + ys.length ≤ 1000 := by omega
  go_enter Tryz.func192, Tryz.ntmps192
  go_wp2_with fail
  refine C9.mono ?_
  rintro e w9 ⟨A9, c9, rfl, ho9, hb9⟩
  have hb89 := hb9a.trans (hb9.mono hb9a.size)
  have C10 := srt_any A9 (xs.length + ys.length) c9 _ (xs ++ ys) w9 ho9 hn9
  have HO9 := Lib.hid ho9
  clear hsv C9 hb9 ho9
  go_wp2_with fail
  refine C10.mono ?_
  rintro e w10 ⟨rfl, ws, hperm, hsort, ho10, hg10⟩
  have hb8 := hb89.grown hg10 hb89.size (fun j hj => Nat.le_trans hlo9 (HO9.out.lt j hj).1)
  have hwl : ws.length = xs.length + ys.length := by rw [hperm.length_eq, List.length_append]
  obtain ⟨A10, c10, e10, hr10⟩ := rowR_owns ho10
  injection e10 with e10 _ e10'
  subst e10 e10'
  have HRW : Hid (RowR w10 w.heap.size w10.heap.size 139 2 A9 (xs.length + ys.length) c9 (wic ws)) := Lib.hid ((hr10.congr (fun x hx => by
    show ((wcells ws)[x]?).getD undef = wic ws x
    unfold wcells
    rw [cells_get (by rw [hwl]; exact hx)]
    rfl)).wide hlo9 (Nat.le_refl _))
  clear C10 hb89 hlo9 hg10 ho10 hr10 HO9
  go_wp2_with fail
  go_ret
  exact ⟨_, _, ws, rfl, hperm, hsort, hwl, HRW.out, hb8⟩
end Go.Proofs.YtfjgapkjpmkplaaGreat.mw
end
