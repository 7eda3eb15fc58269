/- Sd Mpx Nsx Ux Sh Mw Uc. -/
import Derived.Test.YtfjgapkjpmkplaaGreatBa
import Derived.Test.YtfjgapkjpmkplaaGreatBb
import Derived.Test.YtfjgapkjpmkplaaGreatBc
import Derived.Test.YtfjgapkjpmkplaaGreatBe
import Derived.Test.YtfjgapkjpmkplaaGreatBh
import Derived.Test.YtfjgapkjpmkplaaGreatKa0
import Derived.Test.YtfjgapkjpmkplaaGreatKb0
import Derived.Test.YtfjgapkjpmkplaaGreatJMg
import Derived.Test.YtfjgapkjpmkplaaGreatBd
import Derived.Test.YtfjgapkjpmkplaaGreatBf
import Derived.Test.YtfjgapkjpmkplaaGreatJRta
import Derived.Test.YtfjgapkjpmkplaaGreatJRtg
import Derived.Test.YtfjgapkjpmkplaaGreatRows
import Derived.WalkKit
import Derived.WalkSpells
import Derived.WalkLawsBesides
import Derived.ProofKit
import Derived.OpenShut
import Derived.ShutString
import Derived.Deep.OwnRows
import Derived.Deep.Draws
import Derived.SliceStrings
import Derived.ChangeOld
import Derived.Below
import Derived.Lib.Hide
import Derived.Lib.ItoaNum
import Derived.Deep.QuietTactic
import Derived.BigQuiet
import Derived.Outline
import Derived.StillTailTactics
import Derived.Deep.RegionWith
import Derived.Deep.RegionHeld3
import Derived.Deep.Slices
import Derived.Deep.Fields
import Derived.ChangeSame
import Derived.Lib.SmallJoins
import Derived.Maps.OwnOps
import Derived.Maps.OwnIn
import Derived.Maps.Views
import Derived.Maps.AppendAt
import Derived.RangeFuncBox
import Derived.RangeFuncLeaves
import Derived.Shelf.Abstract
import Derived.OwnWalkIn
import Derived.TacticsInMore
import Derived.LoopNIn
import Derived.LoopIn
import Derived.RangeFuncWrites
import Derived.RangeFuncNested
import Derived.JoinedOf
import Derived.Deep.AppendLies
import Derived.Deep.RegionLaw
import Derived.Laws.AppendOwnNone
import Derived.Lib.SliceRun
import Derived.Deep.Cut
import Derived.Deep.CutRange
import Derived.OrdersHeld
import Derived.StillTail
import Derived.Handy
import Derived.Lib.Walk
import Derived.Deep.LoopGhost
import Derived.Lib.LazyBuf
import Derived.Lib.AppendZerosOnto
import Derived.Sort.OwnSorted
import Derived.Lib.SlicesCompact
import Derived.Sort.KeysCollected
import Derived.Test.YtfjgapkjpmkplaaGreatSfl
import Derived.Shelf.SlSortCmp.NoneTotal
import Derived.WalkMore
import Derived.ScopeJumps
import Derived.Test.YtfjgapkjpmkplaaGreatSrt
set_option linter.unusedSimpArgs false
set_option linter.unusedVariables false
section
namespace Go.Proofs.YtfjgapkjpmkplaaGreat.sd
open kit bg sg opn strs only hb sig isig un over gn nm inn ht gd im pt marks eqs hc hi hw hn rs br bm bw cf lf ib lw cl rt ix tg rl ed tp rtg lep pl mb sb wb jo ek wk rk gv tm psp mrp mrs mri nd co ft uw nj sf mg
open su (ltS ltS_tri ltS_irr ltS_trans sortU sortU_mem sortU_len sortU_is sortU_pw names_ltS)
open Go.RowKit
set_option linter.unusedVariables false
theorem not_less {x y : ByteArray} (h : ¬ Op.bytesLess x.toList y.toList = true) : ¬ ltS x y := fun hl => h ((su.bl_lt _ _).2 hl)
theorem mrg_gen : ∀ (f : Nat) (a b : List ByteArray), a.length + b.length ≤ f → a.Pairwise ltS → b.Pairwise ltS → (∀ x, x ∈ (mrg f a b).1 ↔ x ∈ a ∨ x ∈ b) ∧ (mrg f a b).1.Pairwise ltS ∧ ((mrg f a b).2 = true ↔ ∃ x, x ∈ a ∧ x ∈ b)
  | f, [], b, _, _, hb => by
    rw [mrg_nil']
    exact ⟨fun x => by simp, hb, by simp⟩
  | f, x :: a, [], _, ha, _ => by
    rw [mrg_nil]
    exact ⟨fun z => by simp, ha, by simp⟩
  | 0, x :: a, y :: b, h, _, _ => by simp at h
  | f + 1, x :: a, y :: b, h, ha, hb => by
    obtain ⟨hxa, ha'⟩ := List.pairwise_cons.1 ha
    obtain ⟨hyb, hb'⟩ := List.pairwise_cons.1 hb
    simp only [List.length_cons] at h
    rw [mrg]
    by_cases h1 : Op.bytesLess x.toList y.toList = true
    · have hlt : ltS x y := (su.bl_lt _ _).1 h1
      obtain ⟨i1, i2, i3⟩ := mrg_gen f a (y :: b) (by simp only [List.length_cons]; omega) ha' hb
      rw [if_pos h1]
      have hxl : ∀ z, z ∈ y :: b → ltS x z := fun z hz => by
        rcases List.mem_cons.1 hz with e | hz
        · rw [e]; exact hlt
        · exact ltS_trans hlt (hyb z hz)
      refine ⟨fun z => ?_, List.pairwise_cons.2 ⟨fun z hz => ?_, i2⟩, ?_⟩
      · show z ∈ x :: _ ↔ _
        rw [List.mem_cons, i1, List.mem_cons (a := z) (b := x)]
        exact or_assoc.symm
      · rcases (i1 z).1 hz with h | h
        · exact hxa z h
        · exact hxl z h
      · show (mrg f a (y :: b)).2 = true ↔ _
        rw [i3]
        refine ⟨fun ⟨z, p, q⟩ => ⟨z, List.mem_cons_of_mem _ p, q⟩, fun ⟨z, p, q⟩ => ?_⟩
        rcases List.mem_cons.1 p with e | p
        · rw [e] at q
          exact absurd (hxl x q) (ltS_irr x)
        · exact ⟨z, p, q⟩
    · rw [if_neg h1]
      have hn1 := not_less h1
      by_cases h2 : Op.bytesLess y.toList x.toList = true
      · have hlt : ltS y x := (su.bl_lt _ _).1 h2
        obtain ⟨i1, i2, i3⟩ := mrg_gen f (x :: a) b (by simp only [List.length_cons]; omega) ha hb'
        rw [if_pos h2]
        have hyl : ∀ z, z ∈ x :: a → ltS y z := fun z hz => by
          rcases List.mem_cons.1 hz with e | hz
          · rw [e]; exact hlt
          · exact ltS_trans hlt (hxa z hz)
        refine ⟨fun z => ?_, List.pairwise_cons.2 ⟨fun z hz => ?_, i2⟩, ?_⟩
        · show z ∈ y :: _ ↔ _
          rw [List.mem_cons, i1, List.mem_cons (a := z) (b := y)]
          exact or_left_comm
        · rcases (i1 z).1 hz with h | h
          · exact hyl z h
          · exact hyb z h
        · show (mrg f (x :: a) b).2 = true ↔ _
          rw [i3]
          refine ⟨fun ⟨z, p, q⟩ => ⟨z, p, List.mem_cons_of_mem _ q⟩, fun ⟨z, p, q⟩ => ?_⟩
          rcases List.mem_cons.1 q with e | q
          · rw [e] at p
            exact absurd (hyl y p) (ltS_irr y)
          · exact ⟨z, p, q⟩
      · have hn2 := not_less h2
        have hxy : x = y := by
          by_cases e : x = y
          · exact e
          · exact absurd (ltS_tri x y hn1 e) hn2
        subst hxy
        obtain ⟨i1, i2, i3⟩ := mrg_gen f a (x :: b) (by simp only [List.length_cons]; omega) ha' hb
        rw [if_neg h2]
        refine ⟨fun z => ?_, i2, ?_⟩
        · show z ∈ (mrg f a (x :: b)).1 ↔ _
          rw [i1]
          simp only [List.mem_cons]
          constructor
          · rintro (h | h)
            · exact .inl (.inr h)
            · exact .inr h
          · rintro ((h | h) | h)
            · exact .inr (.inl h)
            · exact .inl h
            · exact .inr h
        · exact ⟨fun _ => ⟨x, List.mem_cons_self, List.mem_cons_self⟩, fun _ => rfl⟩
noncomputable def sdO (a b : Big) : List ByteArray := sortU (a.outer ++ b.outer)
open Classical in
noncomputable def apB (xs ys : List ByteArray) : Bool := decide (∀ x ∈ xs, x ∉ ys)
open Classical in
theorem ap_yes {xs ys : List ByteArray} (h : apB xs ys = true) : ∀ x ∈ xs, x ∉ ys := by
  unfold apB at h
  exact of_decide_eq_true h
open Classical in
theorem ap_no {xs ys : List ByteArray} (h : apB xs ys = false) : ∃ x, x ∈ xs ∧ x ∈ ys := by
  unfold apB at h
  have h := of_decide_eq_false h
  exact Classical.byContradiction fun hn => h fun x hx hy => hn ⟨x, hx, hy⟩
open Classical in
theorem ap_of {xs ys : List ByteArray} (h : ∀ x ∈ xs, x ∉ ys) : apB xs ys = true := by unfold apB; exact decide_eq_true h
theorem mrg_names {a b : Big} (ha : NamesP a.outer) (hb : NamesP b.outer) : mrg (a.outer.length + b.outer.length) a.outer b.outer = (sdO a b, !apB a.outer b.outer) := by
  obtain ⟨h1, h2, h3⟩ := mrg_gen (a.outer.length + b.outer.length) a.outer b.outer (Nat.le_refl _) (names_ltS ha) (names_ltS hb)
  have e1 : (mrg (a.outer.length + b.outer.length) a.outer b.outer).1 = sdO a b := sortU_is h2 (fun x => by rw [h1, List.mem_append])
  have e2 : (mrg (a.outer.length + b.outer.length) a.outer b.outer).2 = !apB a.outer b.outer := by
    cases hp : apB a.outer b.outer with
    | true =>
      cases hq : (mrg (a.outer.length + b.outer.length) a.outer b.outer).2 with
      | false => rfl
      | true =>
        obtain ⟨x, p, q⟩ := h3.1 hq
        exact absurd q (ap_yes hp x p)
    | false =>
      obtain ⟨x, p, q⟩ := ap_no hp
      rw [h3.2 ⟨x, p, q⟩]
      rfl
  rw [← e1, ← e2]
theorem sdO_len (a b : Big) : (sdO a b).length ≤ a.outer.length + b.outer.length := by
  have := sortU_len (a.outer ++ b.outer)
  rw [List.length_append] at this
  exact this
theorem sdO_mem {a b : Big} {s : ByteArray} (h : s ∈ sdO a b) : s ∈ a.outer ∨ s ∈ b.outer := by
  unfold sdO at h
  rw [sortU_mem, List.mem_append] at h
  exact h
noncomputable def lfS (a b : Big) : List Int := lkL 0 (a.edges + b.edges) a (sdO a b)
noncomputable def rgS (a b : Big) : List Int := lkL a.edges (a.edges + b.edges) b (sdO a b)
def pcS (a b : Big) : Int → Int := pcF (rtsF a.roots b.roots.toNat) a.nodes.length
noncomputable def wnA (a b : Big) : List Wr := (relB (lkF (lfS a b)) a).inner
noncomputable def wnB (a b : Big) : List Wr := (relB (lkF (rgS a b)) b).inner
noncomputable def sdB (a b : Big) (ws : List Wr) : Big :=
  ⟨a.roots + b.roots, (relB (lkF (lfS a b)) a).nodes ++ (plB (pcS a b) (relB (lkF (rgS a b)) b)).nodes, a.sites ++ b.sites.map (pcS a b), a.edges + b.edges, sdO a b, ws⟩
def insW (x : Wr) : List Wr → List Wr
  | [] => [x]
  | y :: l => if Op.bytesLess y.name.toList x.name.toList = true then y :: insW x l else x :: y :: l
def innW (xs ys : List Wr) : List Wr := ys.foldl (fun o x => insW x o) xs
theorem insW_perm (x : Wr) : ∀ l, (insW x l).Perm (x :: l)
  | [] => List.Perm.refl _
  | y :: l => by
    unfold insW
    split
    · exact ((insW_perm x l).cons y).trans (List.Perm.swap x y l)
    · exact List.Perm.refl _
theorem innW_perm (xs : List Wr) : ∀ ys, (innW xs ys).Perm (xs ++ ys) := fun ys => by
  unfold innW
  induction ys generalizing xs with
  | nil => rw [List.append_nil]; exact List.Perm.refl _
  | cons y ys ih =>
    rw [List.foldl_cons]
    refine (ih (insW y xs)).trans ?_
    refine ((insW_perm y xs).append_right ys).trans ?_
    exact List.perm_middle.symm
def leW (x y : Wr) : Prop := ¬ ltS y.name x.name
theorem insW_pw (x : Wr) : ∀ l, l.Pairwise leW → (insW x l).Pairwise leW
  | [], _ => by simp [insW]
  | y :: l, h => by
    obtain ⟨h1, h2⟩ := List.pairwise_cons.1 h
    unfold insW
    split
    · next hl =>
      have hl : ltS y.name x.name := (su.bl_lt _ _).1 hl
      refine List.pairwise_cons.2 ⟨fun z hz => ?_, insW_pw x l h2⟩
      rcases List.mem_cons.1 ((insW_perm x l).mem_iff.1 hz) with e | hz
      · rw [e]
        exact fun hh => ltS_irr _ (ltS_trans hl hh)
      · exact h1 z hz
    · next hl =>
      have hl := not_less hl
      refine List.pairwise_cons.2 ⟨fun z hz => ?_, h⟩
      rcases List.mem_cons.1 hz with e | hz
      · rw [e]; exact hl
      · intro hh
        by_cases e : y.name = x.name
        · exact h1 z hz (by rw [e]; exact hh)
        · have := ltS_tri _ _ hl e
          exact h1 z hz (ltS_trans hh this)
theorem innW_pw (xs : List Wr) (h : xs.Pairwise leW) : ∀ ys, (innW xs ys).Pairwise leW := fun ys => by
  unfold innW
  induction ys generalizing xs with
  | nil => exact h
  | cons y ys ih => exact ih (insW y xs) (insW_pw y xs h)
theorem srt_pw {ws : List Wr} (h : SortW ws) : ws.Pairwise leW := by
  rw [List.pairwise_iff_getElem]
  intro i j hi hj hij hl
  have := h i j ws[i] ws[j] hij (List.getElem?_eq_getElem hi) (List.getElem?_eq_getElem hj)
  rw [(su.bl_lt _ _).2 hl] at this
  cases this
theorem pw_same {r : Wr → Wr → Prop} (hirr : ∀ a, ¬ r a a) (has : ∀ a b, r a b → ¬ r b a) : ∀ (l l' : List Wr), l.Pairwise r → l'.Pairwise r → (∀ x, x ∈ l ↔ x ∈ l') → l = l'
  | [], [], _, _, _ => rfl
  | [], y :: l', _, _, h => absurd ((h y).2 List.mem_cons_self) (by simp)
  | y :: l, [], _, _, h => absurd ((h y).1 List.mem_cons_self) (by simp)
  | x :: l, y :: l', h1, h2, h => by
    obtain ⟨a1, b1⟩ := List.pairwise_cons.1 h1
    obtain ⟨a2, b2⟩ := List.pairwise_cons.1 h2
    have e : x = y := by
      rcases List.mem_cons.1 ((h x).1 List.mem_cons_self) with e | hx
      · exact e
      · rcases List.mem_cons.1 ((h y).2 List.mem_cons_self) with e | hy
        · exact e.symm
        · exact absurd (a1 y hy) (has _ _ (a2 x hx))
    subst e
    refine congrArg (x :: ·) (pw_same hirr has l l' b1 b2 (fun z => ⟨fun hz => ?_, fun hz => ?_⟩))
    · rcases List.mem_cons.1 ((h z).1 (List.mem_cons_of_mem _ hz)) with e | hz'
      · rw [e] at hz; exact absurd (a1 x hz) (hirr x)
      · exact hz'
    · rcases List.mem_cons.1 ((h z).2 (List.mem_cons_of_mem _ hz)) with e | hz'
      · rw [e] at hz; exact absurd (a2 x hz) (hirr x)
      · exact hz'
theorem pw_strict : ∀ {l : List Wr}, l.Pairwise leW → (l.map (·.name)).Nodup → l.Pairwise (fun x y => ltS x.name y.name)
  | [], _, _ => List.Pairwise.nil
  | x :: l, h, hd => by
    obtain ⟨h1, h2⟩ := List.pairwise_cons.1 h
    rw [List.map_cons, List.nodup_cons] at hd
    refine List.pairwise_cons.2 ⟨fun z hz => ?_, pw_strict h2 hd.2⟩
    have hne : z.name ≠ x.name := fun e => hd.1 (by rw [← e]; exact List.mem_map_of_mem hz)
    exact ltS_tri z.name x.name (h1 z hz) hne
theorem names_nodup {ss : List ByteArray} (h : NamesP ss) : ss.Nodup := by
  have := names_ltS h
  exact this.imp (fun {a b} hl e => by rw [e] at hl; exact ltS_irr _ hl)
theorem wnA_names (a b : Big) : (wnA a b).map (·.name) = nms a.inner := by unfold wnA relB nms; rw [List.map_map]; rfl
theorem wnB_names (a b : Big) : (wnB a b).map (·.name) = nms b.inner := by unfold wnB relB nms; rw [List.map_map]; rfl
theorem wn_pw {ws : List Wr} (h : NamesP (ws.map (·.name))) : ws.Pairwise leW := by
  have h := names_ltS h
  rw [List.pairwise_map] at h
  exact h.imp (fun {x y} hl hh => ltS_irr _ (ltS_trans hl hh))
noncomputable def sdW (a b : Big) : List Wr := innW (wnA a b) (wnB a b)
theorem sdW_is {cs : List Ctl} {a b : Big} {ws : List Wr} (ha : bigB cs a = true) (hb : bigB cs b = true) (hp : apB (nms a.inner) (nms b.inner) = true) (hperm : ws.Perm (wnA a b ++ wnB a b)) (hs : SortW ws) : ws = sdW a b := by
  have hna : NamesP (nms a.inner) := (big_of ha).2.2.2.1
  have hnb : NamesP (nms b.inner) := (big_of hb).2.2.2.1
  have hnd : ((wnA a b ++ wnB a b).map (·.name)).Nodup := by
    rw [List.map_append, wnA_names, wnB_names, List.nodup_append]
    exact ⟨names_nodup hna, names_nodup hnb, fun x hx y hy e => ap_yes hp x hx (by rw [e]; exact hy)⟩
  have hpi := innW_perm (wnA a b) (wnB a b)
  refine pw_same (r := fun x y => ltS x.name y.name) (fun x => ltS_irr _) (fun x y h k => ltS_irr _ (ltS_trans h k)) ws (sdW a b) (pw_strict (srt_pw hs) ?_) (pw_strict (innW_pw _ (wn_pw (by rw [wnA_names]; exact hna)) _) ?_) (fun x => ?_)
  · exact ((hperm.map (·.name)).nodup_iff).2 hnd
  · exact ((hpi.map (·.name)).nodup_iff).2 hnd
  · rw [hperm.mem_iff]
    exact hpi.mem_iff.symm
theorem sd_bad {cs : List Ctl} {a b : Big} {ws : List Wr} (hp : apB (nms a.inner) (nms b.inner) = false) (hperm : ws.Perm (wnA a b ++ wnB a b)) : bigB cs (sdB a b ws) = false := by
  refine big_false fun h => ?_
  have hn : NamesP (ws.map (·.name)) := h.2.2.2.1
  have hd := names_nodup hn
  have hd2 := ((hperm.map (·.name)).nodup_iff).1 hd
  rw [List.map_append, wnA_names, wnB_names, List.nodup_append] at hd2
  obtain ⟨x, p, q⟩ := ap_no hp
  exact hd2.2.2 x p x q rfl
noncomputable def ppP (cs : List Ctl) (a b : Big) : Bool := bigB cs a && bigB cs b && apB (nms a.inner) (nms b.inner)
noncomputable def ppQ (cs : List Ctl) (a b : Big) : Bool := ppP cs a b && bigB cs (sdB a b (sdW a b))
noncomputable def ppR (cs : List Ctl) (a b : Big) : Big := if ppP cs a b = true then giveR cs (sdB a b (sdW a b)) else zeroBig
theorem pp_no {cs : List Ctl} {a b : Big} (h : ppP cs a b = false) : ppQ cs a b = false ∧ ppR cs a b = zeroBig := by
  unfold ppQ ppR
  rw [h]
  exact ⟨rfl, if_neg (by decide)⟩
theorem pp_yes {cs : List Ctl} {a b : Big} (h : ppP cs a b = true) : ppQ cs a b = bigB cs (sdB a b (sdW a b)) ∧ ppR cs a b = giveR cs (sdB a b (sdW a b)) := by
  unfold ppQ ppR
  rw [h]
  exact ⟨rfl, if_pos rfl⟩
theorem pp_impl {cs : List Ctl} {a b : Big} {ws : List Wr} (ha : bigB cs a = true) (hb : bigB cs b = true) (hperm : ws.Perm (wnA a b ++ wnB a b)) (hs : SortW ws) : bigB cs (sdB a b ws) = ppQ cs a b ∧ giveR cs (sdB a b ws) = ppR cs a b := by
  cases hp : apB (nms a.inner) (nms b.inner) with
  | true =>
    have h := pp_yes (cs := cs) (a := a) (b := b) (by unfold ppP; rw [ha, hb, hp]; rfl)
    rw [h.1, h.2, sdW_is ha hb hp hperm hs]
    exact ⟨rfl, rfl⟩
  | false =>
    have h := pp_no (cs := cs) (a := a) (b := b) (by unfold ppP; rw [ha, hb, hp]; rfl)
    have hb := sd_bad (cs := cs) hp hperm
    rw [h.1, h.2, hb]
    refine ⟨rfl, ?_⟩
    unfold giveR
    rw [hb]
    exact if_neg (by decide)
theorem pcS_in {cs : List Ctl} {a b : Big} (ha : bigB cs a = true) (hb : bigB cs b = true) {q : Int} (hq : -b.roots ≤ q ∧ q ≤ 8) : -1000 ≤ pcS a b q ∧ pcS a b q ≤ 1000 := by
  have hya := sizes_of (big_of ha).2.1
  have hyb := sizes_of (big_of hb).2.1
  refine pc_in (fun z hz => ?_) ⟨by omega, by omega⟩ (by omega)
  unfold rtsF at hz
  obtain ⟨i, hi, rfl⟩ := List.mem_map.1 hz
  have := List.mem_range.1 hi
  omega
theorem sd_tame {cs : List Ctl} {a b : Big} {ws : List Wr} (ha : bigB cs a = true) (hb : bigB cs b = true) (hSa : BigS a) (hSb : BigS b) (hperm : ws.Perm (wnA a b ++ wnB a b)) : Tame (sdB a b ws) := by
  have hya := sizes_of (big_of ha).2.1
  have hyb := sizes_of (big_of hb).2.1
  have ta := tame_good ha hSa
  have tb := tame_good hb hSb
  have hol := sdO_len a b
  have hwl := hperm.length_eq
  unfold sdB
  refine tame_two ha hb hSa hSb (by omega) (by omega) (fun l hl => ?_) (fun l hl => ?_) (fun q hq => pcS_in ha hb hq) (by rw [List.length_append, List.length_map]; omega) (fun z hz => ?_) (by omega) (fun u hu => ?_) ?_ (fun x hx => ?_)
  · have := lkL_in (z := 0) (E := a.edges + b.edges) (ou := sdO a b) ha ⟨by decide, by decide⟩ ⟨by omega, by omega⟩ (by omega) hl
    unfold lfS
    omega
  · have := lkL_in (z := a.edges) (E := a.edges + b.edges) (ou := sdO a b) hb ⟨by omega, by omega⟩ ⟨by omega, by omega⟩ (by omega) hl
    unfold rgS
    omega
  · rcases List.mem_append.1 hz with h | h
    · exact ta.st z h
    · obtain ⟨y, hy, rfl⟩ := List.mem_map.1 h
      exact pcS_in ha hb ((par_le hb).2 y hy)
  · rcases sdO_mem hu with h | h
    · exact ta.on u h
    · exact tb.on u h
  · rw [hwl, List.length_append]
    unfold wnA wnB relB
    simp only [List.length_map]
    omega
  · rcases List.mem_append.1 (hperm.mem_iff.1 hx) with h | h
    · obtain ⟨y, hy, rfl⟩ := List.mem_map.1 (show x ∈ a.inner.map _ from h)
      have := lkL_in (z := 0) (E := a.edges + b.edges) (ou := sdO a b) ha ⟨by decide, by decide⟩ ⟨by omega, by omega⟩ (by omega) ((big_lks ha).2 y hy)
      exact ⟨(ta.iw y hy).1, by show -1000 ≤ lkF (lfS a b) y.link; unfold lfS; omega, by show lkF (lfS a b) y.link ≤ 1000; unfold lfS; omega⟩
    · obtain ⟨y, hy, rfl⟩ := List.mem_map.1 (show x ∈ b.inner.map _ from h)
      have := lkL_in (z := a.edges) (E := a.edges + b.edges) (ou := sdO a b) hb ⟨by omega, by omega⟩ ⟨by omega, by omega⟩ (by omega) ((big_lks hb).2 y hy)
      exact ⟨(tb.iw y hy).1, by show -1000 ≤ lkF (rgS a b) y.link; unfold rgS; omega, by show lkF (rgS a b) y.link ≤ 1000; unfold rgS; omega⟩
end Go.Proofs.YtfjgapkjpmkplaaGreat.sd
end
section
namespace Go.Proofs.YtfjgapkjpmkplaaGreat.mpx
open kit bg sg opn strs only hb sig isig un over gn nm inn ht gd im pt marks eqs hc hi hw hn rs br bm bw cf lf ib lw cl rt ix tg rl ed tp rtg lep pl mb sb wb jo ek wk rk gv tm psp mrp mrs mri nd co ft uw nj sf mg sd rn
set_option linter.unusedVariables false
theorem pcS_neg {a b : Big} {p : Int} (h0 : p < 0) (h1 : -b.roots ≤ p) : pcS a b p = p - a.roots := by
  obtain ⟨k, rfl⟩ : ∃ k : Nat, p = -1 - (k : Int) := ⟨(-1 - p).toNat, by omega⟩
  unfold pcS
  rw [pcF_neg (rts_get (z := a.roots) (n := b.roots.toNat) (i := k) (by omega))]
  omega
theorem pcS_pos {a b : Big} {p : Int} (h0 : ¬ p < 0) : pcS a b p = p + a.nodes.length := by
  unfold pcS
  exact pcF_pos h0
theorem sd_left {a b : Big} {ws : List Wr} {k : Nat} {y : Nd} (h : a.nodes[k]? = some y) : (sdB a b ws).nodes[k]? = some ⟨y.control, y.parent, y.links.map (lkF (lfS a b))⟩ := by
  have hk := (List.getElem?_eq_some_iff.1 h).1
  show ((relB (lkF (lfS a b)) a).nodes ++ _)[k]? = _
  rw [List.getElem?_append_left (by simp only [relB, List.length_map]; exact hk)]
  simp only [relB, List.getElem?_map, h]
  rfl
theorem sd_right {a b : Big} {ws : List Wr} {j : Nat} {y : Nd} (h : b.nodes[j]? = some y) : (sdB a b ws).nodes[a.nodes.length + j]? = some ⟨y.control, pcS a b y.parent, y.links.map (lkF (rgS a b))⟩ := by
  have hl : (relB (lkF (lfS a b)) a).nodes.length = a.nodes.length := by simp only [relB, List.length_map]
  show ((relB (lkF (lfS a b)) a).nodes ++ _)[a.nodes.length + j]? = _
  rw [List.getElem?_append_right (by rw [hl]; omega), hl, Nat.add_sub_cancel_left]
  simp only [plB, relB, List.getElem?_map, h]
  rfl
theorem sd_len (a b : Big) (ws : List Wr) : (sdB a b ws).nodes.length = a.nodes.length + b.nodes.length := by
  unfold sdB
  simp only [plB, relB, List.length_append, List.length_map]
theorem sd_node {a b : Big} {ws : List Wr} {k : Nat} {x : Nd} (h : (sdB a b ws).nodes[k]? = some x) :
    (∃ y, a.nodes[k]? = some y ∧ x = ⟨y.control, y.parent, y.links.map (lkF (lfS a b))⟩) ∨ ∃ (j : Nat) (y : Nd), k = a.nodes.length + j ∧ b.nodes[j]? = some y ∧ x = ⟨y.control, pcS a b y.parent, y.links.map (lkF (rgS a b))⟩ := by
  have hk := (List.getElem?_eq_some_iff.1 h).1
  rw [sd_len] at hk
  by_cases h1 : k < a.nodes.length
  · have hy := List.getElem?_eq_getElem h1
    rw [sd_left hy] at h
    injection h with h
    exact .inl ⟨_, hy, h.symm⟩
  · obtain ⟨j, rfl⟩ : ∃ j, k = a.nodes.length + j := ⟨k - a.nodes.length, by omega⟩
    have hy := List.getElem?_eq_getElem (show j < b.nodes.length by omega)
    rw [sd_right hy] at h
    injection h with h
    exact .inr ⟨j, _, rfl, hy, h.symm⟩
theorem sd_site {a b : Big} {ws : List Wr} {i : Nat} {z : Int} (h : (sdB a b ws).sites[i]? = some z) :
    a.sites[i]? = some z ∨ ∃ (j : Nat) (y : Int), b.sites[j]? = some y ∧ z = pcS a b y := by
  have h : (a.sites ++ b.sites.map (pcS a b))[i]? = some z := h
  by_cases h1 : i < a.sites.length
  · rw [List.getElem?_append_left h1] at h
    exact .inl h
  · rw [List.getElem?_append_right (by omega), List.getElem?_map] at h
    obtain ⟨y, hy, e⟩ := Option.map_eq_some_iff.1 h
    exact .inr ⟨_, y, hy, e.symm⟩
theorem und_left {cs : List Ctl} {a b : Big} {ws : List Wr} {p below : Int} (hb : 0 ≤ b.roots) (h : underB cs a p below = true) : underB cs (sdB a b ws) p below = true := by
  unfold underB at h ⊢
  by_cases h0 : p < 0
  · rw [if_pos h0] at h ⊢
    have := inb_true h
    exact inb_mk ⟨this.1, by show -1 - p ≤ a.roots + b.roots - 1; omega⟩
  · rw [if_neg h0] at h ⊢
    simp only [Bool.and_eq_true] at h ⊢
    refine ⟨h.1, ?_⟩
    have h2 := h.2
    cases hy : a.nodes[p.toNat]? with
    | none => rw [hy] at h2; cases h2
    | some y =>
      rw [hy] at h2
      rw [sd_left hy]
      exact h2
theorem und_right {cs : List Ctl} {a b : Big} {ws : List Wr} {p below : Int} (ha : 0 ≤ a.roots) (h : underB cs b p below = true) : underB cs (sdB a b ws) (pcS a b p) (a.nodes.length + below) = true := by
  unfold underB at h
  by_cases h0 : p < 0
  · rw [if_pos h0] at h
    have := inb_true h
    rw [pcS_neg h0 (by omega)]
    unfold underB
    rw [if_pos (by omega)]
    exact inb_mk ⟨by omega, by show -1 - (p - a.roots) ≤ a.roots + b.roots - 1; omega⟩
  · rw [if_neg h0] at h
    simp only [Bool.and_eq_true] at h
    have h1 := of_decide_eq_true h.1
    have h2 := h.2
    rw [pcS_pos h0]
    unfold underB
    rw [if_neg (by omega)]
    simp only [Bool.and_eq_true]
    refine ⟨decide_eq_true (by omega), ?_⟩
    rw [show (p + (a.nodes.length : Int)).toNat = a.nodes.length + p.toNat by omega]
    cases hy : b.nodes[p.toNat]? with
    | none => rw [hy] at h2; cases h2
    | some y =>
      rw [hy] at h2
      rw [sd_right hy]
      exact h2
def Placed (cs : List Ctl) (S : Big) : Prop := (∀ (k : Nat) x, S.nodes[k]? = some x → underB cs S x.parent k = true) ∧ ∀ (i : Nat) p, S.sites[i]? = some p → underB cs S p S.nodes.length = true
theorem seat_under {cs : List Ctl} {b : Big} {k : Nat} {x : Nd} (h : seatB cs b k x = true) : inb x.control 0 (cs.length - 1) = true ∧ underB cs b x.parent k = true := by
  unfold seatB at h
  simp only [Bool.and_eq_true] at h
  exact h
theorem sd_placed {cs : List Ctl} {a b : Big} {ws : List Wr} (ha : bigB cs a = true) (hb : bigB cs b = true) : Placed cs (sdB a b ws) := by
  have hya := sizes_of (big_of ha).2.1
  have hyb := sizes_of (big_of hb).2.1
  have hA := big_of ha
  have hB := big_of hb
  refine ⟨fun k x hx => ?_, fun i p hp => ?_⟩
  · rcases sd_node hx with ⟨y, hy, rfl⟩ | ⟨j, y, rfl, hy, rfl⟩
    · exact und_left hyb.1.1 (seat_under (hA.2.2.2.2.1 k y hy).1).2
    · have := und_right (ws := ws) hya.1.1 (seat_under (hB.2.2.2.2.1 j y hy).1).2
      rw [show ((a.nodes.length + j : Nat) : Int) = (a.nodes.length : Int) + (j : Int) by omega]
      exact this
  · rw [sd_len]
    rcases sd_site hp with h | ⟨j, y, hy, rfl⟩
    · have h1 := und_left (b := b) (ws := ws) hyb.1.1 (hA.2.2.2.2.2.1 i p h)
      unfold underB at h1 ⊢
      by_cases h0 : p < 0
      · rw [if_pos h0] at h1 ⊢; exact h1
      · rw [if_neg h0] at h1 ⊢
        simp only [Bool.and_eq_true] at h1 ⊢
        have := of_decide_eq_true h1.1
        exact ⟨decide_eq_true (by omega), h1.2⟩
    · have h1 := und_right (ws := ws) hya.1.1 (hB.2.2.2.2.2.1 j y hy)
      rw [show ((a.nodes.length + b.nodes.length : Nat) : Int) = (a.nodes.length : Int) + (b.nodes.length : Int) by omega]
      exact h1
noncomputable def mpS (a b : Big) : Big := sdB a b (sdW a b)
end Go.Proofs.YtfjgapkjpmkplaaGreat.mpx
end
section
namespace Go.Proofs.YtfjgapkjpmkplaaGreat.nsx
open kit bg sg opn strs only hb sig isig un over gn nm inn ht gd im pt marks eqs hc hi hw hn rs br bm bw cf lf ib lw cl rt ix tg rl ed tp rtg lep pl mb sb wb jo ek wk rk gv tm psp mrp mrs mri nd co ft uw nj sf mg sd rn mpx cz nw idn idz
open su (sortU sortU_mem sortU_pw names_ltS ltS ltS_trans ltS_irr)
set_option linter.unusedVariables false
noncomputable def nsI (b : Big) : Big := idB 0 b.outer
noncomputable def nsA (a b : Big) : Big := mpS a (nsI b)
noncomputable def nsO (a b : Big) : List ByteArray := sortU (a.outer ++ b.outer)
noncomputable def nsB (a b : Big) : Big := udB a b (nsO a b) (lkL 0 (a.edges + b.edges) a (nsO a b)) (lkL a.edges (a.edges + b.edges) b (nsO a b))
noncomputable def nsP (cs : List Ctl) (a b : Big) : Bool := bigB cs a && bigB cs b && decide (a.inner = []) && decide ((a.sites.length : Int) = b.roots)
noncomputable def nsQ (cs : List Ctl) (a b : Big) : Bool := nsP cs a b && bigB cs (nsB a b)
noncomputable def nsR (cs : List Ctl) (a b : Big) : Big := if nsP cs a b = true then giveR cs (nsB a b) else zeroBig
theorem ns_no {cs : List Ctl} {a b : Big} (h : nsP cs a b = false) : nsQ cs a b = false ∧ nsR cs a b = zeroBig := by
  unfold nsQ nsR
  rw [h]
  exact ⟨rfl, if_neg (by decide)⟩
theorem ns_yes {cs : List Ctl} {a b : Big} (h : nsP cs a b = true) : nsQ cs a b = bigB cs (nsB a b) ∧ nsR cs a b = giveR cs (nsB a b) := by
  unfold nsQ nsR
  rw [h]
  exact ⟨rfl, if_pos rfl⟩
theorem nsR_len (cs : List Ctl) (a b : Big) : bigMk (nsR cs a b) ≤ 1048576 := by
  unfold nsR
  split
  · exact give_len (fun h => big_mk h)
  · exact zero_len
theorem tied_node {ss : List ByteArray} {k : Nat} {x : Wr} (h : (tied ss (nums ss.length))[k]? = some x) : ∃ s, ss[k]? = some s ∧ x = ⟨s, (k : Int)⟩ := by
  have hk := (List.getElem?_eq_some_iff.1 h).1
  rw [tied_len (nums_len _)] at hk
  have hs := List.getElem?_eq_getElem hk
  rw [tied_at hs (nums_at hk)] at h
  injection h with h
  exact ⟨_, hs, h.symm⟩
theorem tied_names (ss : List ByteArray) : nms (tied ss (nums ss.length)) = ss := by
  refine List.ext_getElem? (fun k => ?_)
  unfold nms
  rw [List.getElem?_map]
  by_cases hk : k < ss.length
  · have hs := List.getElem?_eq_getElem hk
    rw [tied_at hs (nums_at hk), hs]
    rfl
  · rw [List.getElem?_eq_none (by rw [tied_len (nums_len _)]; omega), List.getElem?_eq_none (by omega)]
    rfl
theorem nsI_good {cs : List Ctl} {b : Big} (hb : bigB cs b = true) : bigB cs (nsI b) = true := by
  have hB := big_of hb
  have hz := sizes_of hB.2.1
  have hl : (tied b.outer (nums b.outer.length)).length = b.outer.length := tied_len (nums_len _)
  refine big_true ⟨hB.1, ?_, hB.2.2.1, ?_, fun k x hx => (by cases hx), fun k x hx => (by cases hx), fun k x hx => ?_⟩
  · unfold sizesB
    show (inb 0 0 4 && inb 0 0 8 && decide (0 ≤ 8) && decide (0 ≤ 4) && decide (b.outer.length ≤ 16) && decide ((tied b.outer (nums b.outer.length)).length ≤ 16)) = true
    rw [hl, decide_eq_true hz.2.2.2.2.1]
    rfl
  · show NamesP (nms (tied b.outer (nums b.outer.length)))
    rw [tied_names]
    exact hB.2.2.1
  · obtain ⟨s, hs, rfl⟩ := tied_node (show (tied b.outer (nums b.outer.length))[k]? = some x from hx)
    have := (List.getElem?_eq_some_iff.1 hs).1
    exact inb_mk ⟨by show (0 : Int) ≤ k; omega, by show (k : Int) ≤ 0 + b.outer.length - 1; omega⟩
theorem ns_apart {a b : Big} (h : a.inner = []) : apB (nms a.inner) (nms (nsI b).inner) = true := by
  rw [h]
  exact ap_of (fun x hx => by cases hx)
theorem ns_sorted {ws : List Wr} (h : NamesP (ws.map (·.name))) : SortW ws := by
  intro i j x y hij hx hy
  have h1 := names_ltS h
  rw [List.pairwise_map, List.pairwise_iff_getElem] at h1
  obtain ⟨hi, rfl⟩ := List.getElem?_eq_some_iff.1 hx
  obtain ⟨hj, rfl⟩ := List.getElem?_eq_some_iff.1 hy
  have h2 := h1 i j hi hj hij
  cases hq : Op.bytesLess (ws[j]).name.toList (ws[i]).name.toList with
  | false => rfl
  | true => exact absurd (ltS_trans h2 ((su.bl_lt _ _).1 hq)) (ltS_irr _)
theorem nsA_parts {cs : List Ctl} {a b : Big} (ha : bigB cs a = true) (hb : bigB cs b = true) (hi : a.inner = []) :
    nsA a b = ⟨a.roots, (relB (lkF (lkL 0 a.edges a (nsO a b))) a).nodes, a.sites, a.edges, nsO a b, b.outer.map (fun u => ⟨u, a.edges + ixF (nsO a b) u⟩)⟩ := by
  have hE : a.edges + (nsI b).edges = a.edges := by show a.edges + 0 = a.edges; omega
  have hR : a.roots + (nsI b).roots = a.roots := by show a.roots + 0 = a.roots; omega
  have hO : sdO a (nsI b) = nsO a b := rfl
  have hW : sdW a (nsI b) = wnB a (nsI b) := by
    have hn : NamesP ((wnB a (nsI b)).map (·.name)) := by
      rw [wnB_names]
      exact (big_of (nsI_good hb)).2.2.2.1
    refine (sdW_is ha (nsI_good hb) (ns_apart hi) ?_ (ns_sorted hn)).symm
    have : wnA a (nsI b) = [] := by
      unfold wnA relB
      show a.inner.map _ = []
      rw [hi]
      rfl
    rw [this, List.nil_append]
  have hB : wnB a (nsI b) = b.outer.map (fun u => ⟨u, a.edges + ixF (nsO a b) u⟩) := by
    refine List.ext_getElem? (fun k => ?_)
    unfold wnB relB rgS
    show ((tied b.outer (nums b.outer.length)).map _)[k]? = _
    rw [List.getElem?_map, List.getElem?_map, hE, hO]
    by_cases hk : k < b.outer.length
    · have hs := List.getElem?_eq_getElem hk
      rw [tied_at hs (nums_at hk), hs]
      show some (⟨_, lkF (lkL a.edges a.edges (nsI b) (nsO a b)) (k : Int)⟩ : Wr) = some ⟨_, _⟩
      rw [lkL_name (b := nsI b) (k := k) (u := b.outer[k]) (by show (0 : Int) ≤ 0; omega) (by show (k : Int) - 0 = k; omega) hs]
    · rw [List.getElem?_eq_none (by rw [tied_len (nums_len _)]; omega), List.getElem?_eq_none (by omega)]
      rfl
  unfold nsA mpS sdB
  rw [hW, hB, hE, hR, hO]
  have h2 : (plB (pcS a (nsI b)) (relB (lkF (rgS a (nsI b))) (nsI b))).nodes = [] := rfl
  have h3 : (nsI b).sites.map (pcS a (nsI b)) = [] := rfl
  rw [h2, h3, List.append_nil, List.append_nil]
  unfold lfS
  rw [hE, hO]
theorem ns_in {a b : Big} {u : ByteArray} (h : u ∈ b.outer) : ∃ k : Nat, ixF (nsO a b) u = k ∧ (nsO a b)[k]? = some u := by
  rcases ixF_cases (nsO a b) u with ⟨_, hno⟩ | ⟨k, hk, hu, _⟩
  · exact absurd (by unfold nsO; exact sortU_mem.2 (List.mem_append_right _ h)) hno
  · exact ⟨k, hk, hu⟩
theorem ns_ina {a b : Big} {u : ByteArray} (h : u ∈ a.outer) : ∃ k : Nat, ixF (nsO a b) u = k ∧ (nsO a b)[k]? = some u := by
  rcases ixF_cases (nsO a b) u with ⟨_, hno⟩ | ⟨k, hk, hu, _⟩
  · exact absurd (by unfold nsO; exact sortU_mem.2 (List.mem_append_left _ h)) hno
  · exact ⟨k, hk, hu⟩
theorem ix_srt {ss : List ByteArray} {k : Nat} {u : ByteArray} (h : (sortU ss)[k]? = some u) : ixF (sortU ss) u = k := by
  rcases ixF_cases (sortU ss) u with ⟨_, hno⟩ | ⟨j, hj, hjs, _⟩
  · exact absurd (List.mem_of_getElem? h) hno
  · rw [hj]
    have hp := sortU_pw ss
    rw [List.pairwise_iff_getElem] at hp
    obtain ⟨h1, e1⟩ := List.getElem?_eq_some_iff.1 h
    obtain ⟨h2, e2⟩ := List.getElem?_eq_some_iff.1 hjs
    rcases Nat.lt_trichotomy j k with hl | rfl | hl
    · have := hp j k h2 h1 hl
      rw [e1, e2] at this
      exact absurd this (ltS_irr _)
    · rfl
    · have := hp k j h1 h2 hl
      rw [e1, e2] at this
      exact absurd this (ltS_irr _)
theorem ns_comp {cs : List Ctl} {a b : Big} (ha : bigB cs a = true) (hb : bigB cs b = true) (hi : a.inner = []) : cpB (nsA a b) b = nsB a b := by
  have hya := sizes_of (big_of ha).2.1
  have hyb := sizes_of (big_of hb).2.1
  have hp := nsA_parts ha hb hi
  obtain ⟨Y, hY⟩ : ∃ Y, nsA a b = Y := ⟨_, rfl⟩
  rw [hY] at hp ⊢
  obtain ⟨E, hE⟩ : ∃ E, a.edges + b.edges = E := ⟨_, rfl⟩
  have hYe : Y.edges = a.edges := by rw [hp]
  have hYo : Y.outer = nsO a b := by rw [hp]
  have hYs : Y.sites = a.sites := by rw [hp]
  have hYr : Y.roots = a.roots := by rw [hp]
  have hYn : Y.nodes = (relB (lkF (lkL 0 a.edges a (nsO a b))) a).nodes := by rw [hp]
  have hYi : Y.inner = b.outer.map (fun u => ⟨u, a.edges + ixF (nsO a b) u⟩) := by rw [hp]
  have hlkY : ∀ (k : Nat) u, (nsO a b)[k]? = some u → lkF (lkL 0 E Y (nsO a b)) (a.edges + (k : Int)) = E + (k : Int) := fun k u hu => by
    rw [lkL_name (k := k) (u := u) (by rw [hYe]; omega) (by rw [hYe]; omega) (by rw [hYo]; exact hu)]
    unfold nsO at hu ⊢
    rw [ix_srt hu]
  have hnodes : (relB (lkF (lkL 0 E Y (nsO a b))) Y).nodes = (relB (lkF (lkL 0 E a (nsO a b))) a).nodes := by
    unfold relB
    show Y.nodes.map _ = a.nodes.map _
    rw [hYn]
    unfold relB
    rw [List.map_map]
    refine List.map_congr_left (fun x hx => ?_)
    show (⟨x.control, x.parent, (x.links.map _).map _⟩ : Nd) = ⟨x.control, x.parent, x.links.map _⟩
    rw [List.map_map]
    congr 1
    refine List.map_congr_left (fun l hl => ?_)
    have hlr := (big_lks ha).1 x hx l hl
    show lkF (lkL 0 E Y (nsO a b)) (lkF (lkL 0 a.edges a (nsO a b)) l) = lkF (lkL 0 E a (nsO a b)) l
    by_cases h0 : l < a.edges
    · rw [lkL_edge hya.2.1.1 hlr.1 h0, lkL_edge hya.2.1.1 hlr.1 h0]
      rw [lkL_edge (by rw [hYe]; omega) (by omega) (by rw [hYe]; omega)]
      omega
    · obtain ⟨j, u, hj, hu⟩ := name_at hlr h0
      obtain ⟨k, hk, hku⟩ := ns_ina (b := b) (List.mem_of_getElem? hu)
      rw [lkL_name hya.2.1.1 hj hu, lkL_name hya.2.1.1 hj hu, hk, hlkY k u hku]
  have hrg : rgL Y b E (nsO a b) = lkL a.edges E b (nsO a b) := by
    unfold rgL lkL blL nmdL
    rw [hYe, hYi, List.map_map]
    congr 1
    refine List.map_congr_left (fun u hu => ?_)
    obtain ⟨k, hk, hku⟩ := ns_in (a := a) hu
    show lkF (lkL 0 E Y (nsO a b)) (a.edges + ixF (nsO a b) u) = E + ixF (nsO a b) u
    rw [hk, hlkY k u hku]
  unfold cpB nsB udB
  rw [hYe, hYo, hYs, hYr, hE, hnodes, hrg]
  have hl : Y.nodes.length = a.nodes.length := by rw [hYn]; simp only [relB, List.length_map]
  rw [hl]
theorem nsA_fit {cs : List Ctl} {a b : Big} (ha : bigB cs a = true) (hb : bigB cs b = true) (hi : a.inner = []) : fitB (nsA a b) b = decide ((a.sites.length : Int) = b.roots) := by
  have hp := nsA_parts ha hb hi
  unfold fitB
  rw [hp]
  have : nms (b.outer.map (fun u => (⟨u, a.edges + ixF (nsO a b) u⟩ : Wr))) = b.outer := by
    unfold nms
    rw [List.map_map]
    exact List.map_id' _
  show (decide ((a.sites.length : Int) = b.roots) && decide (nms (b.outer.map (fun u => (⟨u, a.edges + ixF (nsO a b) u⟩ : Wr))) = b.outer)) = _
  rw [this, decide_eq_true (rfl : b.outer = b.outer), Bool.and_true]
theorem nsA_good {cs : List Ctl} {a b : Big} (ha : bigB cs a = true) (hb : bigB cs b = true) (hi : a.inner = []) (h : bigB cs (nsB a b) = true) : bigB cs (nsA a b) = true := by
  have hA := big_of ha
  have hB := big_of hb
  have hya := sizes_of hA.2.1
  have hyb := sizes_of hB.2.1
  have hN := big_of h
  have hyn := sizes_of hN.2.1
  have hNo : NamesP (nsO a b) := hN.2.2.1
  have hOl : (nsO a b).length ≤ 16 := hyn.2.2.2.2.1
  have hpl := sd_placed (ws := sdW a (nsI b)) ha (nsI_good hb)
  have hp := nsA_parts ha hb hi
  have hpl : Placed cs (nsA a b) := hpl
  obtain ⟨Y, hY⟩ : ∃ Y, nsA a b = Y := ⟨_, rfl⟩
  rw [hY] at hp hpl ⊢
  have hYe : Y.edges = a.edges := by rw [hp]
  have hYo : Y.outer = nsO a b := by rw [hp]
  have hYs : Y.sites = a.sites := by rw [hp]
  have hYr : Y.roots = a.roots := by rw [hp]
  have hYn : Y.nodes = (relB (lkF (lkL 0 a.edges a (nsO a b))) a).nodes := by rw [hp]
  have hYi : Y.inner = b.outer.map (fun u => ⟨u, a.edges + ixF (nsO a b) u⟩) := by rw [hp]
  refine big_true ⟨hA.1, ?_, by rw [hYo]; exact hNo, ?_, fun k x hx => ?_, fun i p hpp => hpl.2 i p hpp, fun i x hx => ?_⟩
  · unfold sizesB
    rw [hYe, hYo, hYs, hYr, hYn, hYi]
    have h1 : ((relB (lkF (lkL 0 a.edges a (nsO a b))) a).nodes).length = a.nodes.length := by simp only [relB, List.length_map]
    rw [h1, List.length_map, inb_mk hya.1, inb_mk hya.2.1, decide_eq_true hya.2.2.1, decide_eq_true hya.2.2.2.1, decide_eq_true hOl, decide_eq_true hyb.2.2.2.2.1]
    rfl
  · rw [hYi, List.map_map]
    have : b.outer.map ((fun x : Wr => x.name) ∘ fun u => (⟨u, a.edges + ixF (nsO a b) u⟩ : Wr)) = b.outer := List.map_id' _
    rw [this]
    exact hB.2.2.1
  · have hx' := hx
    rw [hYn] at hx'
    unfold relB at hx'
    rw [List.getElem?_map] at hx'
    obtain ⟨y, hy, rfl⟩ := Option.map_eq_some_iff.1 hx'
    have h1 := hA.2.2.2.2.1 k y hy
    refine ⟨?_, ?_, fun i l hl => ?_⟩
    · unfold seatB
      simp only [Bool.and_eq_true]
      have h9 := hpl.1 k _ hx
      exact ⟨(seat_under h1.1).1, h9⟩
    · have h2 := h1.2.1
      unfold portsB at h2 ⊢
      dsimp only
      rw [List.length_map]
      exact h2
    · have hl : (y.links.map (lkF (lkL 0 a.edges a (nsO a b))))[i]? = some l := hl
      rw [List.getElem?_map] at hl
      obtain ⟨m, hm, rfl⟩ := Option.map_eq_some_iff.1 hl
      have hmr := (big_lks ha).1 y (List.mem_of_getElem? hy) m (List.mem_of_getElem? hm)
      unfold linkB
      rw [hYe, hYo]
      by_cases h0 : m < a.edges
      · rw [lkL_edge hya.2.1.1 hmr.1 h0]
        exact inb_mk ⟨by omega, by omega⟩
      · obtain ⟨j, u, hj, hu⟩ := name_at hmr h0
        obtain ⟨q, hq, hqu⟩ := ns_ina (b := b) (List.mem_of_getElem? hu)
        have := (List.getElem?_eq_some_iff.1 hqu).1
        rw [lkL_name hya.2.1.1 hj hu, hq]
        exact inb_mk ⟨by omega, by omega⟩
  · rw [hYi, List.getElem?_map] at hx
    obtain ⟨u, hu, rfl⟩ := Option.map_eq_some_iff.1 hx
    obtain ⟨q, hq, hqu⟩ := ns_in (a := a) (List.mem_of_getElem? hu)
    have := (List.getElem?_eq_some_iff.1 hqu).1
    unfold linkB
    rw [hYe, hYo]
    show inb (a.edges + ixF (nsO a b) u) 0 _ = true
    rw [hq]
    exact inb_mk ⟨by omega, by omega⟩
theorem ns_pp {cs : List Ctl} {a b : Big} (ha : bigB cs a = true) (hb : bigB cs b = true) (hi : a.inner = []) : ppP cs a (nsI b) = true := by
  unfold ppP
  rw [ha, nsI_good hb, ns_apart hi]
  rfl
theorem ns_fail {cs : List Ctl} {a b : Big} (ha : bigB cs a = true) (hb : bigB cs b = true) (hi : a.inner = []) (h : ppQ cs a (nsI b) = false) : nsQ cs a b = false ∧ nsR cs a b = zeroBig := by
  cases hP : nsP cs a b with
  | false => exact ns_no hP
  | true =>
    have hb' : bigB cs (nsB a b) = false := by
      cases hq : bigB cs (nsB a b) with
      | false => rfl
      | true =>
        have := nsA_good ha hb hi hq
        rw [(pp_yes (ns_pp ha hb hi)).1] at h
        rw [show sdB a (nsI b) (sdW a (nsI b)) = nsA a b from rfl, this] at h
        cases h
    rw [(ns_yes hP).1, (ns_yes hP).2, hb']
    refine ⟨rfl, ?_⟩
    unfold giveR
    rw [hb']
    exact if_neg (by decide)
theorem ns_impl {cs : List Ctl} {a b : Big} (ha : bigB cs a = true) (hb : bigB cs b = true) (hi : a.inner = []) (h : ppQ cs a (nsI b) = true) : ppR cs a (nsI b) = nsA a b ∧ cpQ cs (nsA a b) b = nsQ cs a b ∧ cpR cs (nsA a b) b = nsR cs a b := by
  have hg : bigB cs (nsA a b) = true := by
    rw [(pp_yes (ns_pp ha hb hi)).1] at h
    exact h
  have e : ppR cs a (nsI b) = nsA a b := by
    rw [(pp_yes (ns_pp ha hb hi)).2]
    unfold giveR
    exact if_pos hg
  have hP : cpP cs (nsA a b) b = nsP cs a b := by
    unfold cpP nsP
    rw [hg, hb, ha, nsA_fit ha hb hi, decide_eq_true hi]
    rfl
  refine ⟨e, ?_, ?_⟩
  · unfold cpQ nsQ
    rw [hP, ns_comp ha hb hi]
  · unfold cpR nsR
    rw [hP, ns_comp ha hb hi]
theorem ns_tame {cs : List Ctl} {a b : Big} (ha : bigB cs a = true) (hb : bigB cs b = true) (hSa : BigS a) (hSb : BigS b) (hi : a.inner = []) (hr : (a.sites.length : Int) = b.roots) : Tame (nsB a b) := by
  have hya := sizes_of (big_of ha).2.1
  have hyb := sizes_of (big_of hb).2.1
  have ta := tame_good ha hSa
  have tb := tame_good hb hSb
  have hol : (nsO a b).length ≤ 32 := by
    have := su.sortU_len (a.outer ++ b.outer)
    rw [List.length_append] at this
    unfold nsO
    omega
  have hpc : ∀ q, -b.roots ≤ q ∧ q ≤ 8 → -1000 ≤ pcF a.sites a.nodes.length q ∧ pcF a.sites a.nodes.length q ≤ 1000 := fun q hq => pc_in (fun z hz => ta.st z hz) ⟨by omega, by omega⟩ (by omega)
  have hlb : ∀ l, 0 ≤ l ∧ l < b.edges + b.outer.length → -1 ≤ lkF (lkL a.edges (a.edges + b.edges) b (nsO a b)) l ∧ lkF (lkL a.edges (a.edges + b.edges) b (nsO a b)) l ≤ 300 := fun l hl => lkL_in (z := a.edges) (E := a.edges + b.edges) (ou := nsO a b) hb ⟨by omega, by omega⟩ ⟨by omega, by omega⟩ (by omega) hl
  unfold nsB udB
  refine tame_two ha hb hSa hSb (by omega) (by omega) (fun l hl => ?_) (fun l hl => ?_) hpc (by rw [List.length_map]; omega) (fun z hz => ?_) (by omega) (fun u hu => ?_) ?_ (fun x hx => ?_)
  · have := lkL_in (z := 0) (E := a.edges + b.edges) (ou := nsO a b) ha ⟨by decide, by decide⟩ ⟨by omega, by omega⟩ (by omega) hl
    omega
  · have := hlb l hl
    omega
  · obtain ⟨y, hy, rfl⟩ := List.mem_map.1 hz
    exact hpc y ((par_le hb).2 y hy)
  · unfold nsO at hu
    rw [su.sortU_mem, List.mem_append] at hu
    rcases hu with h | h
    · exact ta.on u h
    · exact tb.on u h
  · have : (relB (lkF (lkL a.edges (a.edges + b.edges) b (nsO a b))) b).inner.length = b.inner.length := by simp only [relB, List.length_map]
    omega
  · obtain ⟨y, hy, rfl⟩ := List.mem_map.1 (show x ∈ b.inner.map _ from hx)
    have := hlb _ ((big_lks hb).2 y hy)
    exact ⟨(tb.iw y hy).1, by show -1000 ≤ lkF _ y.link; omega, by show lkF _ y.link ≤ 1000; omega⟩
theorem nsI_tame {cs : List Ctl} {b : Big} (hb : bigB cs b = true) (hSb : BigS b) : Tame (nsI b) := by
  have hyb := sizes_of (big_of hb).2.1
  have tb := tame_good hb hSb
  have hl : (tied b.outer (nums b.outer.length)).length = b.outer.length := tied_len (nums_len _)
  exact
  { r := by show -1000 ≤ (0 : Int) ∧ (0 : Int) ≤ 1000; omega
    e := by show -1000 ≤ (0 : Int) ∧ (0 : Int) ≤ 1000; omega
    n := by show 0 ≤ 1000; omega
    nd := fun x hx => (by cases hx)
    s := by show 0 ≤ 1000; omega
    st := fun x hx => (by cases hx)
    o := tb.o
    on := tb.on
    i := by show (tied b.outer (nums b.outer.length)).length ≤ 1000; omega
    iw := fun x hx => by
      obtain ⟨k, hk⟩ := List.getElem?_of_mem (show x ∈ tied b.outer (nums b.outer.length) from hx)
      obtain ⟨s, hs, rfl⟩ := tied_node hk
      have := (List.getElem?_eq_some_iff.1 hs).1
      exact ⟨tb.on s (List.mem_of_getElem? hs), by show -1000 ≤ (k : Int); omega, by show (k : Int) ≤ 1000; omega⟩ }
theorem nsA_tame {cs : List Ctl} {a b : Big} (ha : bigB cs a = true) (hb : bigB cs b = true) (hSa : BigS a) (hSb : BigS b) (hi : a.inner = []) : Tame (nsA a b) :=
  sd_tame ha (nsI_good hb) hSa (nsI_tame hb hSb).S (innW_perm _ _)
end Go.Proofs.YtfjgapkjpmkplaaGreat.nsx
end
section
namespace Go.Proofs.YtfjgapkjpmkplaaGreat.ux
open kit bg sg opn strs only hb sig isig un over gn nm inn ht gd im pt marks eqs hc hi hw hn rs br bm bw cf lf ib lw cl rt ix tg rl ed tp rtg uw oc
open Go.RowKit
set_option linter.unusedVariables false
set_option linter.unusedSimpArgs false
theorem unc_any (t : Tgt) (w : World) : Calls Tryz.prog 175 #[tgV t] w fun e w' => e = .returned (tgV t) ∧ Below w.heap.size w w' := by
  have hb1 := (Below.refl w.heap.size w).alloc (Nat.le_refl _) (.cells #[.int .i64 t.edge, .string t.name] 160)
  have hb2 := hb1.alloc hb1.size (.cells #[.int .i64 t.edge, .string t.name] 160)
  obtain ⟨z0, z1⟩ := (two_new (w.alloc (.cells #[.int .i64 t.edge, .string t.name] 160)) t).get
  clear hb1
  obtain ⟨te, tn⟩ := t
  unfold tgV
  dsimp only at z0 z1 hb2 ⊢
  go_enter Tryz.func175, Tryz.ntmps175
  go_wp2_with fail
  first
  | (go_ret; exact ⟨rfl, Below.refl _ _⟩)
  | exact bodyPost_ret (v := .agg #[.int .i64 te, .string tn]) (by simp [results, Tryz.results175, go_sem, z0, z1]) rfl ⟨rfl, hb2⟩
theorem beh_any (k : Int) (w : World) : Calls Tryz.prog 176 #[.int .i64 k] w fun e w' => e = .returned (.func (.func 231) #[] #[.pointer (some ⟨w.heap.size, 0, none⟩)]) ∧ w'.cell? ⟨w.heap.size, 0, none⟩ = some (.int .i64 k) ∧ w.heap.size < w'.heap.size ∧ Below w.heap.size w w' := by
  have hb1 := (Below.refl w.heap.size w).alloc (Nat.le_refl _) (.cells #[.int .i64 k] 3)
  have hc := rta.one_cell w (.int .i64 k) 3
  obtain ⟨U, hU⟩ : ∃ U, w.alloc (.cells #[.int .i64 k] 3) = U := ⟨_, rfl⟩
  have hUz : U.heap.size = w.heap.size + 1 := by rw [← hU, World.size_alloc]
  rw [hU] at hb1 hc
  have HR := Lib.hid (And.intro hc (And.intro (show w.heap.size < U.heap.size by omega) hb1))
  have HU := Lib.hid hU
  clear hb1 hc hU hUz
  go_enter Tryz.func176, Tryz.ntmps176
  go_wp2_with fail
  rw [HU.out]
  (try go_wp2_with fail)
  go_ret
  exact ⟨rfl, HR.out⟩
set_option maxRecDepth 20000 in
set_option maxHeartbeats 1600000 in
theorem beh1_any (k : Int) (u : Tgt) (γ : Nat) (w : World) (hk : w.cell? ⟨γ, 0, none⟩ = some (.int .i64 k)) (hγ : γ < w.heap.size) (hkk : -1000 ≤ k ∧ k ≤ 1000) (hu : -1000 ≤ u.edge ∧ u.edge ≤ 1000) :
    Calls Tryz.prog 231 #[tgV u, .pointer (some ⟨γ, 0, none⟩)] w fun e' w' => e' = .returned (tgV (behF k u)) ∧ Below w.heap.size w w' := by
  obtain ⟨ue, un⟩ := u
  obtain ⟨hk0, hk1⟩ := hkk
  have hb1 := (Below.refl w.heap.size w).alloc (Nat.le_refl _) (.cells #[.int .i64 ue, .string un] 160)
  obtain ⟨U, hU⟩ : ∃ U, w.alloc (.cells #[.int .i64 ue, .string un] 160) = U := ⟨_, rfl⟩
  have hUz : U.heap.size = w.heap.size + 1 := by rw [← hU, World.size_alloc]
  have hTu : TwoAt U w.heap.size ⟨ue, un⟩ := by rw [← hU]; exact two_new w ⟨ue, un⟩
  rw [hU] at hb1
  have hb2 := (Below.refl U.heap.size U).alloc (Nat.le_refl _) (.cells #[.int .i64 0, .string ⟨#[]⟩] 160)
  have hTz := two_new U ⟨0, ⟨#[]⟩⟩
  obtain ⟨V, hV⟩ : ∃ V, U.alloc (.cells #[.int .i64 0, .string ⟨#[]⟩] 160) = V := ⟨_, rfl⟩
  have hVz : V.heap.size = w.heap.size + 2 := by rw [← hV, World.size_alloc, hUz]
  dsimp only at hTz
  rw [hV] at hb2 hTz
  rw [hUz] at hTz
  have hTv := hTu.on hb2
  have hbV := hb1.trans (hb2.mono hb1.size)
  have CE := isE_any ⟨ue, un⟩ V
  have hce := (hbV.cell (p := ⟨γ, 0, none⟩) hγ).trans hk
  have HUq := Lib.hid hU
  have HVq := Lib.hid hV
  have HTv := Lib.hid hTv
  have HTz := Lib.hid hTz
  have HbV := Lib.hid hbV
  obtain ⟨r0, r1⟩ := hTv.get
  dsimp only at r0 r1 hu
  obtain ⟨hu0, hu1⟩ := hu
  unfold tgV at CE
  dsimp only at CE
  have X : Hid (V.cell? ⟨γ, 0, none⟩ = some (.int .i64 k)) := Lib.hid hce
  clear hU hV hb1 hb2 hTu hTv hTz hbV hk hce
  rw [← HVq.out, ← HUq.out] at r0 r1
  cases hE : isE ⟨ue, un⟩ with
  | false =>
    rw [hE] at CE
    rw [behF_name hE]
    unfold tgV
    dsimp only
    go_enter Tryz.func231, Tryz.ntmps231
    go_wp2_with fail
    rw [HUq.out, HVq.out]
    refine CE.mono ?_
    rintro e1 w1 ⟨rfl, hb⟩
    have HT1 := (HTz.out.on hb).put (u := ⟨ue, un⟩)
    have HU1 := (HTv.out.on hb)
    obtain ⟨q0, q1⟩ := HU1.get
    obtain ⟨p0, p1⟩ := (HTz.out.on hb).get
    obtain ⟨f0, f1⟩ := (HTz.out.on hb).fz
    have HB1 := Lib.hid (HbV.out.trans (hb.mono HbV.out.size))
    have HZ := Lib.hid HT1.get
    dsimp only at q0 q1 p0 p1
    clear CE r0 r1 HU1 HT1 hb
    go_wp2_with fail
    obtain ⟨z0, z1⟩ := HZ.out
    try dsimp only at z0 z1
    exact bodyPost_ret (v := .agg #[.int .i64 ue, .string un]) (by simp [results, Tryz.results231, go_sem, z0, z1]) rfl ⟨rfl, (HB1.out.setCell (p := ⟨w.heap.size + 1, 0, none⟩) (Nat.le_succ _) _).setCell (p := ⟨w.heap.size + 1, 1, none⟩) (Nat.le_succ _) _⟩
  | true =>
    rw [hE] at CE
    rw [behF_edge hE]
    have hw1 : wrap64 (ue + k) = ue + k := by unfold wrap64; omega
    unfold tgV
    dsimp only
    go_enter Tryz.func231, Tryz.ntmps231
    go_wp2_with fail
    rw [HUq.out, HVq.out]
    refine CE.mono ?_
    rintro e1 w1 ⟨rfl, hb⟩
    have HUe := two_edge (HTv.out.on hb) (ue + k)
    have HZe := two_far (HTz.out.on hb) (show w.heap.size + 1 ≠ w.heap.size by omega) (.int .i64 (ue + k))
    have HT1 := HZe.put (u := ⟨ue + k, un⟩)
    obtain ⟨q0, q1⟩ := (HTv.out.on hb).get
    obtain ⟨g0, g1⟩ := (HTv.out.on hb).fz
    obtain ⟨q2, q3⟩ := HUe.get
    obtain ⟨p0, p1⟩ := HZe.get
    obtain ⟨f0, f1⟩ := HZe.fz
    have hce1 := (hb.cell (p := ⟨γ, 0, none⟩) (by dsimp only; omega)).trans X.out
    have HB1 := Lib.hid ((HbV.out.trans (hb.mono HbV.out.size)).setCell (p := ⟨w.heap.size, 0, none⟩) (Nat.le_refl _) (.int .i64 (ue + k)))
    have HZ := Lib.hid HT1.get
    dsimp only at q0 q1 q2 q3 p0 p1
    clear CE r0 r1 HT1 HUe HZe hb
    go_wp2_with fail
    obtain ⟨z0, z1⟩ := HZ.out
    try dsimp only at z0 z1
    exact bodyPost_ret (v := .agg #[.int .i64 (ue + k), .string un]) (by simp [results, Tryz.results231, go_sem, z0, z1]) rfl ⟨rfl, (HB1.out.setCell (p := ⟨w.heap.size + 1, 0, none⟩) (Nat.le_succ _) _).setCell (p := ⟨w.heap.size + 1, 1, none⟩) (Nat.le_succ _) _⟩
end Go.Proofs.YtfjgapkjpmkplaaGreat.ux
end
section
namespace Go.Proofs.YtfjgapkjpmkplaaGreat.sh
open kit bg sg opn strs only hb sig isig un over gn nm inn ht gd im pt marks eqs hc hi hw hn rs br bm bw cf lf ib lw cl rt ix tg rl ed tp rtg uw ux nj cg cc rk nk wk ek tm gv lep mrp mri mrs pl ft co sd sf mb sb wb
open Go.RowKit
set_option linter.unusedVariables false
set_option linter.unusedSimpArgs false
set_option maxRecDepth 20000 in
set_option maxHeartbeats 1600000 in
theorem sb1_any (R r : Int) (a1 a2 a3 a4 a5 : Value) (β : Nat) (w : World) (hx : BoxAt w β 36 (.int .i64 R) a1 a2 a3 a4 a5) (hR : 0 ≤ R ∧ R ≤ 4) (hr : 0 ≤ r ∧ r ≤ 4) :
    Calls Tryz.prog 190 #[.int .i64 r, .pointer (some ⟨β, 0, none⟩)] w fun e w' => e = .returned (.int .i64 (-1 - (R + r))) ∧ Below w.heap.size w w' := by
  obtain ⟨hR0, hR1⟩ := hR
  obtain ⟨hr0, hr1⟩ := hr
  have HC := Lib.hid (por_any (R + r) w (by omega))
  have hw1 : wrap64 (R + r) = R + r := by unfold wrap64; omega
  have hb := Below.refl w.heap.size w
  obtain ⟨x0, x1, x2, x3, x4, x5⟩ := hx.get
  go_enter Tryz.func190, Tryz.ntmps190
  go_wp2_with fail
  refine HC.out.mono ?_
  rintro e w1 ⟨rfl, rfl⟩
  go_wp2_with fail
  go_ret
  exact ⟨rfl, hb⟩
theorem wcells_app (xs ys : List Wr) : wcells (xs ++ ys) = wcells xs ++ wcells ys := by
  refine List.ext_getElem? (fun t => ?_)
  by_cases h : t < xs.length * 2
  · rw [List.getElem?_append_left (by rw [wcells_len]; exact h)]
    unfold wcells
    rw [cells_get h, cells_get (by rw [List.length_append]; omega)]
    unfold wic
    rw [List.getElem?_append_left (by omega)]
  · obtain ⟨k, rfl⟩ : ∃ k, t = xs.length * 2 + k := ⟨t - xs.length * 2, by omega⟩
    rw [List.getElem?_append_right (by rw [wcells_len]; omega), wcells_len, Nat.add_sub_cancel_left]
    by_cases h2 : k < ys.length * 2
    · unfold wcells
      rw [cells_get h2, cells_get (by rw [List.length_append]; omega)]
      unfold wic
      rw [show (xs.length * 2 + k) / 2 = xs.length + k / 2 by omega, show (xs.length * 2 + k) % 2 = k % 2 by omega, List.getElem?_append_right (by omega), Nat.add_sub_cancel_left]
    · rw [List.getElem?_eq_none (by rw [wcells_len, List.length_append]; omega), List.getElem?_eq_none (by rw [wcells_len]; omega)]
theorem concatW_two {w : World} {Av A B : Option Addr} {cv c d lo hi lo2 hi2 : Nat} {xs ys : List Wr} (hV : SR w w.heap.size Av 2 [.slice A xs.length c, .slice B ys.length d]) (ha : RowR w lo hi 139 2 A xs.length c (wic xs)) (hb : RowR w lo2 hi2 139 2 B ys.length d (wic ys)) (hn : xs.length ≤ 1000) (hm : ys.length ≤ 1000) :
    Calls Tryz.prog 239 #[.slice Av 2 cv] w fun e w' => ∃ A' c', e = .returned (.slice A' (xs.length + ys.length) c') ∧ w'.ownsRow w.heap.size 139 2 (.slice A' (xs.length + ys.length) c') (xs.length + ys.length) (wcells (xs ++ ys)) ∧ Below w.heap.size w w' := by
  have h := concatW_any Av 2 cv (xs.length + ys.length) [.slice A xs.length c, .slice B ys.length d] [wcells xs, wcells ys] w hV
    (partsK_two (row_sr ha) (nil0 ha) (one_cells (one_wic xs)) (row_sr hb) (nil0 hb) (one_cells (one_wic ys))) rfl (by simp [wcells_len]; omega) (by omega) (by omega)
  refine h.mono ?_
  rintro e w' ⟨v, rfl, hown, hbel⟩
  obtain ⟨A', c', rfl, -⟩ := rowR_owns hown
  refine ⟨A', c', rfl, ?_, hbel⟩
  rw [wcells_app]
  have h2 : ([wcells xs, wcells ys] : List (List Value)).flatten = wcells xs ++ wcells ys := by simp
  rw [h2] at hown
  exact hown
theorem icells_eq (xs : List Int) : cellsOf (xs.length * 1) (iat xs) = xs.map (Value.int .i64) := by
  refine List.ext_getElem? (fun t => ?_)
  rw [Nat.mul_one, List.getElem?_map]
  by_cases h : t < xs.length
  · rw [cells_get h, List.getElem?_eq_getElem h]
    rw [iat_of (List.getElem?_eq_getElem h)]
    rfl
  · rw [List.getElem?_eq_none (by rw [cells_len]; omega), List.getElem?_eq_none (by omega)]
    rfl
theorem concatI_two {w : World} {Av A B : Option Addr} {cv c d lo hi lo2 hi2 : Nat} {xs ys : List Int} (hV : SR w w.heap.size Av 2 [.slice A xs.length c, .slice B ys.length d]) (ha : RowR w lo hi 3 1 A xs.length c (iat xs)) (hb : RowR w lo2 hi2 3 1 B ys.length d (iat ys)) (hn : xs.length ≤ 1000) (hm : ys.length ≤ 1000) :
    Calls Tryz.prog 191 #[.slice Av 2 cv] w fun e w' => ∃ A' c', e = .returned (.slice A' (xs.length + ys.length) c') ∧ RowR w' w.heap.size w'.heap.size 3 1 A' (xs.length + ys.length) c' (iat (xs ++ ys)) ∧ Below w.heap.size w w' := by
  have h := concatI_any Av 2 cv (xs.length + ys.length) [.slice A xs.length c, .slice B ys.length d] [cellsOf (xs.length * 1) (iat xs), cellsOf (ys.length * 1) (iat ys)] w hV
    (partsK_two (row_sr ha) (nil0 ha) (one_cells (fun x _ => one_iat xs x)) (row_sr hb) (nil0 hb) (one_cells (fun x _ => one_iat ys x))) rfl (by simp [cells_len]) (by omega) (by omega)
  refine h.mono ?_
  rintro e w' ⟨v, rfl, hown, hbel⟩
  have h2 : ([cellsOf (xs.length * 1) (iat xs), cellsOf (ys.length * 1) (iat ys)] : List (List Value)).flatten = (xs ++ ys).map (Value.int .i64) := by
    rw [icells_eq, icells_eq, List.map_append]
    simp
  rw [h2] at hown
  obtain ⟨A', c', e2, hr⟩ := ints_owned hown
  rw [List.length_append] at e2 hr
  exact ⟨A', c', by rw [e2], hr, hbel⟩
theorem pl_congr {f g : Int → Int} {b : Big} (h1 : ∀ x ∈ b.nodes, f x.parent = g x.parent) (h2 : ∀ z ∈ b.sites, f z = g z) : plB f b = plB g b := by
  unfold plB
  rw [List.map_congr_left (fun x hx => by rw [h1 x hx]), List.map_congr_left h2]
theorem pc_side {a b : Big} {p : Int} (hR : 0 ≤ b.roots) (hp : -b.roots ≤ p) : toF (fun r => -1 - (a.roots + r)) a.nodes.length p = pcS a b p := by
  unfold toF pcS pcF
  by_cases h : p < 0
  · rw [if_pos h, if_pos h, List.getD_eq_getElem?_getD, rts_get (show (-1 - p).toNat < b.roots.toNat by omega)]
    show -1 - (a.roots + (-1 - p)) = -1 - a.roots - ((-1 - p).toNat : Int)
    omega
  · rw [if_neg h, if_neg h, Int.add_comm]
theorem sd_parts {cs : List Ctl} {a b : Big} (ws : List Wr) (ha : bigB cs a = true) (hb : bigB cs b = true) :
    (⟨a.roots + b.roots, (reB a (fun t => t) (a.edges + b.edges) (sdO a b)).nodes ++ (plB (toF (fun r => -1 - (a.roots + r)) a.nodes.length) (reB b (behF a.edges) (a.edges + b.edges) (sdO a b))).nodes, (reB a (fun t => t) (a.edges + b.edges) (sdO a b)).sites ++ (plB (toF (fun r => -1 - (a.roots + r)) a.nodes.length) (reB b (behF a.edges) (a.edges + b.edges) (sdO a b))).sites, a.edges + b.edges, sdO a b, ws⟩ : Big) = sdB a b ws := by
  have hyb := sizes_of (big_of hb).2.1
  have hpl := par_le hb
  have e : plB (toF (fun r => -1 - (a.roots + r)) a.nodes.length) (reB b (behF a.edges) (a.edges + b.edges) (sdO a b)) = plB (pcS a b) (reB b (behF a.edges) (a.edges + b.edges) (sdO a b)) := by
    refine pl_congr (fun x hx => ?_) (fun z hz => ?_)
    · obtain ⟨y, hy, rfl⟩ := List.mem_map.1 (show x ∈ b.nodes.map _ from hx)
      exact pc_side (by omega) (hpl.1 y hy).1
    · exact pc_side (by omega) (hpl.2 z hz).1
  rw [e]
  unfold reB
  rw [above_eq ha, beh_eq hb]
  rfl
theorem sd_inner {cs : List Ctl} {a b : Big} (ha : bigB cs a = true) (hb : bigB cs b = true) (F : Int → Int) : (reB a (fun t => t) (a.edges + b.edges) (sdO a b)).inner = wnA a b ∧ (plB F (reB b (behF a.edges) (a.edges + b.edges) (sdO a b))).inner = wnB a b := by
  unfold reB
  rw [above_eq ha, beh_eq hb]
  exact ⟨rfl, rfl⟩
theorem rs_tame {cs : List Ctl} {a b : Big} (ha : bigB cs a = true) (hb : bigB cs b = true) (hSa : BigS a) (hSb : BigS b) : Tame (reB b (behF a.edges) (a.edges + b.edges) (sdO a b)) := by
  have hya := sizes_of (big_of ha).2.1
  have hyb := sizes_of (big_of hb).2.1
  have ta := tame_good ha hSa
  have tb := tame_good hb hSb
  have hol := sdO_len a b
  refine tame_rk hb hSb (fun l hl => ?_) (by omega) (by omega) (fun u hu => ?_)
  · rw [reL_beh (by omega) (big_of hb).2.2.1 hl]
    have := lkL_in (z := a.edges) (E := a.edges + b.edges) (ou := sdO a b) hb ⟨by omega, by omega⟩ ⟨by omega, by omega⟩ (by omega) hl
    omega
  · rcases sdO_mem hu with h | h
    · exact ta.on u h
    · exact tb.on u h
end Go.Proofs.YtfjgapkjpmkplaaGreat.sh
end
section
namespace Go.Proofs.YtfjgapkjpmkplaaGreat.mw
open kit bg sg opn strs only hb sig isig un over gn nm inn ht gd im pt marks eqs hc hi hw hn rs br bm bw cf lf ib lw cl rt ix tg rl ed tp rtg uw ux nj cg cc rk nk wk ek tm gv lep mrp mri mrs pl ft co sd sf sh mb sb wb
open Go.RowKit
set_option linter.unusedVariables false
set_option linter.unusedSimpArgs false
set_option maxHeartbeats 3200000 in
theorem mw_any {w : World} {A B : Option Addr} {c d lo hi lo2 hi2 : Nat} {xs ys : List Wr} (ha : RowR w lo hi 139 2 A xs.length c (wic xs)) (hb : RowR w lo2 hi2 139 2 B ys.length d (wic ys)) (hx : xs.length ≤ 100) (hy : ys.length ≤ 100) :
    Calls Tryz.prog 192 #[.slice A xs.length c, .slice B ys.length d] w fun e w' => ∃ A' c' ws, e = .returned (.slice A' (xs.length + ys.length) c') ∧ ws.Perm (xs ++ ys) ∧ SortW ws ∧ ws.length = xs.length + ys.length ∧ RowR w' w.heap.size w'.heap.size 139 2 A' (xs.length + ys.length) c' (wic ws) ∧ Below w.heap.size w w' := by
  have hsv := sr_vals2 w [Value.slice A xs.length c, Value.slice B ys.length d] 34
  have hb9a := (Below.refl w.heap.size w).alloc (Nat.le_refl _) (.cells #[Value.slice A xs.length c, Value.slice B ys.length d] 34)
  have C9 := concatW_two (cv := 2) hsv (ha.on hb9a) (hb.on hb9a) (by omega) (by omega)
  have hlo9 := hb9a.size
  have hn9 : xs.length + ys.length ≤ 1000 := by omega
  go_enter Tryz.func192, Tryz.ntmps192
  go_wp2_with fail
  refine C9.mono ?_
  rintro e w9 ⟨A9, c9, rfl, ho9, hb9⟩
  have hb89 := hb9a.trans (hb9.mono hb9a.size)
  have C10 := srt_any A9 (xs.length + ys.length) c9 _ (xs ++ ys) w9 ho9 hn9
  have HO9 := Lib.hid ho9
  clear hsv C9 hb9 ho9
  go_wp2_with fail
  refine C10.mono ?_
  rintro e w10 ⟨rfl, ws, hperm, hsort, ho10, hg10⟩
  have hb8 := hb89.grown hg10 hb89.size (fun j hj => Nat.le_trans hlo9 (HO9.out.lt j hj).1)
  have hwl : ws.length = xs.length + ys.length := by rw [hperm.length_eq, List.length_append]
  obtain ⟨A10, c10, e10, hr10⟩ := rowR_owns ho10
  injection e10 with e10 _ e10'
  subst e10 e10'
  have HRW : Hid (RowR w10 w.heap.size w10.heap.size 139 2 A9 (xs.length + ys.length) c9 (wic ws)) := Lib.hid ((hr10.congr (fun x hx => by
    show ((wcells ws)[x]?).getD undef = wic ws x
    unfold wcells
    rw [cells_get (by rw [hwl]; exact hx)]
    rfl)).wide hlo9 (Nat.le_refl _))
  clear C10 hb89 hlo9 hg10 ho10 hr10 HO9
  go_wp2_with fail
  go_ret
  exact ⟨_, _, ws, rfl, hperm, hsort, hwl, HRW.out, hb8⟩
end Go.Proofs.YtfjgapkjpmkplaaGreat.mw
end
section
namespace Go.Proofs.YtfjgapkjpmkplaaGreat.uc
open kit bg sg opn strs only hb sig isig un over gn nm inn ht gd im pt marks eqs hc hi hw hn rs br bm bw cf lf ib lw cl rt ix tg rl ed tp rtg uw ux oc
open Go.RowKit
set_option linter.unusedVariables false
set_option linter.unusedSimpArgs false
set_option maxRecDepth 20000 in
set_option maxHeartbeats 1600000 in
theorem cm2_any (a0 a3 : Value) (A1 : Option Addr) (n1 c1 : Nat) (A2 : Option Addr) (n2 c2 : Nat) (A4 : Option Addr) (n4 c4 : Nat) (A5 : Option Addr) (n5 c5 : Nat) (zs : List Int) (r : Int) (β : Nat) (w : World) (hx : BoxAt w β 36 a0 (.slice A1 n1 c1) (.slice A2 n2 c2) a3 (.slice A4 n4 c4) (.slice A5 n5 c5)) (h2 : IntsAt w w.heap.size A2 n2 zs) (hr : 0 ≤ r ∧ r < n2) (hn : n2 ≤ 1048576) :
    Calls Tryz.prog 181 #[.int .i64 r, .pointer (some ⟨β, 0, none⟩)] w fun e w' => e = .returned (.int .i64 (zs.getD r.toNat 0)) ∧ Below w.heap.size w w' := by
  obtain ⟨k, rfl⟩ : ∃ k : Nat, r = k := ⟨r.toNat, by omega⟩
  obtain ⟨b2, o2, z, rfl, hb2, hz, cz⟩ := h2.get (show k < n2 by omega)
  have HZ : Hid (zs.getD (k : Int).toNat 0 = z) := Lib.hid (by rw [Int.toNat_natCast, List.getD_eq_getElem?_getD, hz]; rfl)
  rw [HZ.out]
  have hkn : k < n2 := by omega
  obtain ⟨x0, x1, x2, x3, x4, x5⟩ := hx.get
  clear h2 hz hr
  go_enter Tryz.func181, Tryz.ntmps181
  go_wp2_with fail
  go_ret
  exact ⟨rfl, Below.refl _ _⟩
set_option maxRecDepth 20000 in
set_option maxHeartbeats 6400000 in
theorem cm1_any (a b : Big) (A1 : Option Addr) (n1 c1 : Nat) (A2 : Option Addr) (n2 c2 : Nat) (A4 : Option Addr) (n4 c4 : Nat) (A5 : Option Addr) (n5 c5 : Nat) (b0 b1 b2 b3 : Value) (B4 : Option Addr) (m4 d4 : Nat) (y5 : Value) (u : Tgt) (γ βa βb δ : Nat) (w : World)
    (hf : w.cell? ⟨γ, 0, none⟩ = some (.func (.func 231) #[] #[.pointer (some ⟨δ, 0, none⟩)])) (hγ : γ < w.heap.size) (hd : w.cell? ⟨δ, 0, none⟩ = some (.int .i64 a.edges)) (hδ : δ < w.heap.size)
    (hv : BigAt w w.heap.size (.agg #[.int .i64 a.roots, .slice A1 n1 c1, .slice A2 n2 c2, .int .i64 a.edges, .slice A4 n4 c4, .slice A5 n5 c5]) a) (hxa : BoxAt w βa 36 (.int .i64 a.roots) (.slice A1 n1 c1) (.slice A2 n2 c2) (.int .i64 a.edges) (.slice A4 n4 c4) (.slice A5 n5 c5)) (hxb : BoxAt w βb 36 b0 b1 b2 b3 (.slice B4 m4 d4) y5) (hsb : SR w w.heap.size B4 m4 (b.outer.map Value.string))
    (hEa : 0 ≤ a.edges ∧ a.edges ≤ 8) (hoa : a.outer.length ≤ 16) (hin : a.inner.length = b.outer.length) (hla : ∀ x ∈ a.inner, 0 ≤ x.link ∧ x.link < a.edges + a.outer.length) (hm : m4 ≤ 16) (hu : -1000 ≤ u.edge ∧ u.edge ≤ 1000) (hun : isE u = false → u.name ∈ b.outer) :
    Calls Tryz.prog 177 #[tgV u, .pointer (some ⟨γ, 0, none⟩), .pointer (some ⟨βa, 0, none⟩), .pointer (some ⟨βb, 0, none⟩)] w fun e w' => e = .returned (tgV (cmF a b u)) ∧ Below w.heap.size w w' := by
  obtain ⟨ue, un⟩ := u
  obtain ⟨A1', n1', c1', A2', n2', c2', A4', n4', c4', A5', n5', c5', e, -, -, -, h5⟩ := id hv
  injection e with e
  simp at e
  obtain ⟨⟨rfl, rfl, rfl⟩, ⟨rfl, rfl, rfl⟩, ⟨rfl, rfl, rfl⟩, rfl, rfl, rfl⟩ := e
  have hb1 := (Below.refl w.heap.size w).alloc (Nat.le_refl _) (.cells #[.int .i64 ue, .string un] 160)
  obtain ⟨U, hU⟩ : ∃ U, w.alloc (.cells #[.int .i64 ue, .string un] 160) = U := ⟨_, rfl⟩
  have hUz : U.heap.size = w.heap.size + 1 := by rw [← hU, World.size_alloc]
  have hTu : TwoAt U w.heap.size ⟨ue, un⟩ := by rw [← hU]; exact two_new w ⟨ue, un⟩
  rw [hU] at hb1
  have hb2 := (Below.refl U.heap.size U).alloc (Nat.le_refl _) (.cells #[.int .i64 0, .string ⟨#[]⟩] 160)
  have hTz := two_new U ⟨0, ⟨#[]⟩⟩
  obtain ⟨V, hV⟩ : ∃ V, U.alloc (.cells #[.int .i64 0, .string ⟨#[]⟩] 160) = V := ⟨_, rfl⟩
  have hVz : V.heap.size = w.heap.size + 2 := by rw [← hV, World.size_alloc, hUz]
  dsimp only at hTz
  rw [hV] at hb2 hTz
  rw [hUz] at hTz
  have hTv := hTu.on hb2
  have hbV := hb1.trans (hb2.mono hb1.size)
  have CE := isE_any ⟨ue, un⟩ V
  have HUq := Lib.hid hU
  have HVq := Lib.hid hV
  have HTv := Lib.hid hTv
  have HTz := Lib.hid hTz
  have HbV := Lib.hid hbV
  obtain ⟨r0, r1⟩ := hTv.get
  dsimp only at r0 r1 hu hun
  obtain ⟨hu0, hu1⟩ := hu
  obtain ⟨hE0, hE1⟩ := hEa
  unfold tgV at CE
  dsimp only at CE
  have Hf := Lib.hid hf
  have Hd := Lib.hid hd
  have HXa := Lib.hid hxa
  have HXb := Lib.hid hxb
  have HSb := Lib.hid hsb
  have HV := Lib.hid hv
  have H5 := Lib.hid h5
  clear hU hV hb1 hb2 hTu hTv hTz hbV hf hd hxa hxb hsb hv h5
  rw [← HVq.out, ← HUq.out] at r0 r1
  cases hE : isE ⟨ue, un⟩ with
  | true =>
    rw [hE] at CE
    have CB := Lib.hid (fun (Y : World) (hY : Below w.heap.size w Y) => beh1_any a.edges ⟨ue, un⟩ δ Y ((hY.cell (p := ⟨δ, 0, none⟩) hδ).trans Hd.out) (Nat.lt_of_lt_of_le hδ hY.size) (by omega) (by dsimp only; omega))
    have HF : Hid (cmF a b ⟨ue, un⟩ = ⟨ue + a.edges, un⟩) := Lib.hid (cmF_edge hE)
    rw [show behF a.edges ⟨ue, un⟩ = ⟨ue + a.edges, un⟩ from behF_edge hE] at CB
    rw [HF.out]
    unfold tgV at CB ⊢
    dsimp only at CB ⊢
    clear hla hin
    go_enter Tryz.func177, Tryz.ntmps177
    go_wp2_with fail
    rw [HUq.out, HVq.out]
    refine CE.mono ?_
    rintro e1 w1 ⟨rfl, hb⟩
    have hw1 := HbV.out.trans (hb.mono HbV.out.size)
    have HB1 := Lib.hid hw1
    have hf1 := (hw1.cell (p := ⟨γ, 0, none⟩) hγ).trans Hf.out
    obtain ⟨q0, q1⟩ := (HTv.out.on hb).get
    have HT1 := Lib.hid (HTz.out.on hb)
    have CB1 := CB.out w1 hw1
    dsimp only at q0 q1
    clear CE r0 r1 hb hw1
    go_wp2_with fail
    refine CB1.mono ?_
    rintro e2 w2 ⟨rfl, hb⟩
    have HT2 := (HT1.out.on hb).put (u := ⟨ue + a.edges, un⟩)
    obtain ⟨p0, p1⟩ := (HT1.out.on hb).get
    obtain ⟨f0, f1⟩ := (HT1.out.on hb).fz
    have HB2 := Lib.hid (HB1.out.trans (hb.mono HB1.out.size))
    have HZ := Lib.hid HT2.get
    dsimp only at p0 p1
    clear CB1 q0 q1 hf1 hb HT2
    go_wp2_with fail
    obtain ⟨z0, z1⟩ := HZ.out
    try dsimp only at z0 z1
    exact bodyPost_ret (v := .agg #[.int .i64 (ue + a.edges), .string un]) (by simp [results, Tryz.results177, go_sem, z0, z1]) rfl ⟨rfl, (HB2.out.setCell (p := ⟨w.heap.size + 1, 0, none⟩) (Nat.le_succ _) _).setCell (p := ⟨w.heap.size + 1, 1, none⟩) (Nat.le_succ _) _⟩
  | false =>
    rw [hE] at CE
    have hmem : un ∈ b.outer := hun hE
    rcases ixF_cases b.outer un with ⟨_, hno⟩ | ⟨k, hk, hks, _⟩
    · exact absurd hmem hno
    have hkb := (List.getElem?_eq_some_iff.1 hks).1
    have hkn : k < n5 := by rw [← H5.out.1, hin]; exact hkb
    obtain ⟨b5, o5, x, rfl, hb5, hx, cx0, cx1⟩ := H5.out.get hkn
    have hxl := hla x (List.mem_of_getElem? hx)
    have HF : Hid (cmF a b ⟨ue, un⟩ = tgOf a x.link) := Lib.hid (by
      rw [cmF_name hE]
      show tgOf a (inL a (ixF b.outer un).toNat) = _
      rw [hk, Int.toNat_natCast, inL_at hx])
    rw [HF.out]
    obtain ⟨T, hT⟩ : ∃ T, tgOf a x.link = T := ⟨_, rfl⟩
    have CT := Lib.hid (fun (Y : World) (hY : Below w.heap.size w Y) => tof_any (.agg #[.int .i64 a.roots, .slice A1 n1 c1, .slice A2 n2 c2, .int .i64 a.edges, .slice A4 n4 c4, .slice (some ⟨b5, o5, none⟩) n5 c5]) a x.link w Y HV.out hY hxl ⟨hE0, hE1⟩ hoa)
    have CI := Lib.hid (fun (Y : World) (hY : Below w.heap.size w Y) => index_any B4 m4 d4 b.outer un Y _ (HSb.out.below hY) (by omega))
    rw [hT] at CT ⊢
    rw [hk] at CI
    have hs1 : HSb.out.strlen = HSb.out.strlen := rfl
    have hkm : (k : Nat) < m4 := by have := HSb.out.strlen; omega
    have HC5 := Lib.hid (And.intro hb5 cx1)
    have hn5 : n5 ≤ 16 := by rw [← H5.out.1, hin, HSb.out.strlen]; exact hm
    obtain ⟨te, tn⟩ := T
    unfold tgV at CT ⊢
    dsimp only at CT ⊢
    clear hla hin hmem hks hkb hx cx0 cx1 hT hk hun hs1
    go_enter Tryz.func177, Tryz.ntmps177
    go_wp2_with fail
    rw [HUq.out, HVq.out]
    refine CE.mono ?_
    rintro e1 w1 ⟨rfl, hb⟩
    have hw1 := HbV.out.trans (hb.mono HbV.out.size)
    have HB1 := Lib.hid hw1
    have HT1 := Lib.hid (HTz.out.on hb)
    have HTu1 := Lib.hid (HTv.out.on hb)
    have hs1 := hw1.size
    have hsV : V.heap.size ≤ w1.heap.size := hb.size
    have HS : Hid (∀ w', Below w1.heap.size w1 w' → (w'.cell? ⟨βa, 0, none⟩ = some (.int .i64 a.roots) ∧ w'.cell? ⟨βa, 1, none⟩ = some (.slice A1 n1 c1) ∧ w'.cell? ⟨βa, 2, none⟩ = some (.slice A2 n2 c2) ∧ w'.cell? ⟨βa, 3, none⟩ = some (.int .i64 a.edges) ∧ w'.cell? ⟨βa, 4, none⟩ = some (.slice A4 n4 c4) ∧ w'.cell? ⟨βa, 5, none⟩ = some (.slice (some ⟨b5, o5, none⟩) n5 c5) ∧ w'.cell? ⟨βb, 4, none⟩ = some (.slice B4 m4 d4) ∧ w'.cell? ⟨w.heap.size, 1, none⟩ = some (.string un) ∧ w'.cell? ⟨b5, o5 + k * 2 + 1, none⟩ = some (.int .i64 x.link))) := Lib.hid (fun w' hq => by
      have hwq := HB1.out.trans (hq.mono HB1.out.size)
      obtain ⟨g0, g1, g2, g3, g4, g5⟩ := (HXa.out.below hwq (World.rowIs.lt HXa.out)).get
      exact ⟨g0, g1, g2, g3, g4, g5, (HXb.out.below hwq (World.rowIs.lt HXb.out)).get.2.2.2.2.1, (HTu1.out.on hq).get.2, (hwq.cell (p := ⟨b5, o5 + k * 2 + 1, none⟩) HC5.out.1).trans HC5.out.2⟩)
    obtain ⟨q0, q1⟩ := HTu1.out.get
    dsimp only at q0 q1
    have hkD := (Below.refl w1.heap.size w1).drew
    have hwD := HB1.out.drew
    clear CE r0 r1 hb hw1
    go_wp2_with fail
    clear q0 q1
    refine rh.go_begin 12 (fun w' => (w'.cell? ⟨βa, 0, none⟩ = some (.int .i64 a.roots) ∧ w'.cell? ⟨βa, 1, none⟩ = some (.slice A1 n1 c1) ∧ w'.cell? ⟨βa, 2, none⟩ = some (.slice A2 n2 c2) ∧ w'.cell? ⟨βa, 3, none⟩ = some (.int .i64 a.edges) ∧ w'.cell? ⟨βa, 4, none⟩ = some (.slice A4 n4 c4) ∧ w'.cell? ⟨βa, 5, none⟩ = some (.slice (some ⟨b5, o5, none⟩) n5 c5) ∧ w'.cell? ⟨βb, 4, none⟩ = some (.slice B4 m4 d4) ∧ w'.cell? ⟨w.heap.size, 1, none⟩ = some (.string un) ∧ w'.cell? ⟨b5, o5 + k * 2 + 1, none⟩ = some (.int .i64 x.link))) (by kernel_rfl) ?_ (fun hHeld => ?_)
    · ((try dsimp only); exact HS.out _ (by go_grown))
    refine rh.go_take (i := 0) (v := ?v1) rfl (by kernel_rfl) (fun _ _ _ h => h) (Or.inl ⟨by rfl, ?hy1⟩) (by assumption) ?rest1
    case hy1 => (intro wS hSw; (try dsimp only at hSw); go_simp; try (with_reducible rfl))
    try simp only [Act.put, List.setIfInBounds_toArray, List.set_cons_zero, List.set_cons_succ]
    refine rh.go_take (i := 1) (v := ?v2) rfl (by kernel_rfl) (fun _ _ _ h => h) (Or.inl ⟨by rfl, ?hy2⟩) (by assumption) ?rest2
    case hy2 => (intro wS hSw; (try dsimp only at hSw); go_simp; try (with_reducible rfl))
    try simp only [Act.put, List.setIfInBounds_toArray, List.set_cons_zero, List.set_cons_succ]
    refine rh.go_take (i := 2) (v := ?v3) rfl (by kernel_rfl) (fun _ _ _ h => h) (Or.inl ⟨by rfl, ?hy3⟩) (by assumption) ?rest3
    case hy3 => (intro wS hSw; (try dsimp only at hSw); go_simp; try (with_reducible rfl))
    try simp only [Act.put, List.setIfInBounds_toArray, List.set_cons_zero, List.set_cons_succ]
    refine rh.go_take (i := 3) (v := ?v4) rfl (by kernel_rfl) (fun _ _ _ h => h) (Or.inl ⟨by rfl, ?hy4⟩) (by assumption) ?rest4
    case hy4 => (intro wS hSw; (try dsimp only at hSw); go_simp; try (with_reducible rfl))
    try simp only [Act.put, List.setIfInBounds_toArray, List.set_cons_zero, List.set_cons_succ]
    refine rh.go_take (i := 4) (v := ?v5) rfl (by kernel_rfl) (fun _ _ _ h => h) (Or.inl ⟨by rfl, ?hy5⟩) (by assumption) ?rest5
    case hy5 => (intro wS hSw; (try dsimp only at hSw); go_simp; try (with_reducible rfl))
    try simp only [Act.put, List.setIfInBounds_toArray, List.set_cons_zero, List.set_cons_succ]
    refine rh.go_take (i := 5) (v := ?v6) rfl (by kernel_rfl) (fun _ _ _ h => h) (Or.inl ⟨by rfl, ?hy6⟩) (by assumption) ?rest6
    case hy6 => (intro wS hSw; (try dsimp only at hSw); go_simp; try (with_reducible rfl))
    try simp only [Act.put, List.setIfInBounds_toArray, List.set_cons_zero, List.set_cons_succ]
    refine rh.go_take (i := 6) (v := ?v7) rfl (by kernel_rfl) (fun _ _ _ h => h) (Or.inl ⟨by rfl, ?hy7⟩) (by assumption) ?rest7
    case hy7 => (intro wS hSw; (try dsimp only at hSw); go_simp; try (with_reducible rfl))
    try simp only [Act.put, List.setIfInBounds_toArray, List.set_cons_zero, List.set_cons_succ]
    refine rh.go_next (i := 7) rfl (by kernel_rfl) (fun K2 hK => ?_)
    (go_simp; go_at_call 180; refine (CI.out _ hwD).mono ?_; rintro e2 w2 ⟨rfl, rfl⟩; go_wp2_with fail)
    refine hK.out _ _ ?_ (fun hHeld => ?_)
    · ((try dsimp only); exact HS.out _ (by go_grown))
    clear hK K2
    try simp only [Act.put, List.setIfInBounds_toArray, List.set_cons_zero, List.set_cons_succ]
    refine rh.go_take (i := 8) (v := ?v8) rfl (by kernel_rfl) (fun _ _ _ h => h) (Or.inl ⟨by rfl, ?hy8⟩) (by assumption) ?rest8
    case hy8 => (intro wS hSw; (try dsimp only at hSw); go_simp; try (with_reducible rfl))
    try simp only [Act.put, List.setIfInBounds_toArray, List.set_cons_zero, List.set_cons_succ]
    refine rh.go_take (i := 9) (v := ?v9) rfl (by kernel_rfl) (fun _ _ _ h => h) (Or.inl ⟨by rfl, ?hy9⟩) (by assumption) ?rest9
    case hy9 => (intro wS hSw; (try dsimp only at hSw); go_simp; try (with_reducible rfl))
    try simp only [Act.put, List.setIfInBounds_toArray, List.set_cons_zero, List.set_cons_succ]
    refine rh.go_take (i := 10) (v := ?v10) rfl (by kernel_rfl) (fun _ _ _ h => h) (Or.inl ⟨by rfl, ?hy10⟩) (by assumption) ?rest10
    case hy10 => (intro wS hSw; (try dsimp only at hSw); go_simp; try (with_reducible rfl))
    try simp only [Act.put, List.setIfInBounds_toArray, List.set_cons_zero, List.set_cons_succ]
    refine rh.go_next (i := 11) rfl (by kernel_rfl) (fun K2 hK => ?_)
    (go_simp; go_at_call 179; refine (CT.out _ hwD).mono ?_; rintro e2 w2 ⟨rfl, hb⟩; have hk2 := hkD.trans (hb.mono hkD.size); have HK2 := Lib.hid hk2; clear hb; go_wp2_with fail)
    refine hK.out _ _ ?_ (fun hHeld => ?_)
    · ((try dsimp only); exact HS.out _ (by go_grown))
    clear hK K2
    try simp only [Act.put, List.setIfInBounds_toArray, List.set_cons_zero, List.set_cons_succ]
    have HT2 := (HT1.out.on HK2.out).put (u := ⟨te, tn⟩)
    obtain ⟨p0, p1⟩ := (HT1.out.on HK2.out).get
    obtain ⟨f0, f1⟩ := (HT1.out.on HK2.out).fz
    dsimp only at p0 p1
    have HB2 := Lib.hid (HB1.out.trans (HK2.out.mono HB1.out.size))
    have HZ := Lib.hid HT2.get
    clear HT2
    refine rh.go_last rfl (by kernel_rfl) (fun K2 hK => ?_)
    go_simp
    refine hK.out _ _ ?_
    refine NoPanic.normal ?_
    clear hK K2
    go_wp2_with fail
    obtain ⟨z0, z1⟩ := HZ.out
    try dsimp only at z0 z1
    exact bodyPost_ret (v := .agg #[.int .i64 te, .string tn]) (by simp [results, Tryz.results177, go_sem, z0, z1]) rfl ⟨rfl, (HB2.out.setCell (p := ⟨w.heap.size + 1, 0, none⟩) (Nat.le_succ _) _).setCell (p := ⟨w.heap.size + 1, 1, none⟩) (Nat.le_succ _) _⟩
end Go.Proofs.YtfjgapkjpmkplaaGreat.uc
end
