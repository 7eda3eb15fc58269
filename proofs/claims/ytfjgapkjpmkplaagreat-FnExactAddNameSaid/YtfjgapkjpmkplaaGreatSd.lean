/- Two Bigraphs side by side: what they make. -/
import Derived.Test.YtfjgapkjpmkplaaGreatUw
import Derived.Test.YtfjgapkjpmkplaaGreatSf
import Derived.Test.YtfjgapkjpmkplaaGreatMg
namespace Go.Proofs.YtfjgapkjpmkplaaGreat.sd
open kit bg sg opn strs only hb sig isig un over gn nm inn ht gd im pt marks eqs hc hi hw hn rs br bm bw cf lf ib isa lawb lw cl rt ix tg rl ed tp rtg lo nl lep rnp pm pl mb sb wb jo ek wk rk gv tm idl psp mrp mrs mri nd co ft uw nj sf mg
open su (ltS ltS_tri ltS_irr ltS_trans sortU sortU_mem sortU_len sortU_is sortU_pw names_ltS)
open Go.RowKit
set_option linter.unusedVariables false
theorem not_less {x y : ByteArray} (h : ¬ Op.bytesLess x.toList y.toList = true) : ¬ ltS x y := fun hl => h ((su.bl_lt _ _).2 hl)
theorem mrg_gen : ∀ (f : Nat) (a b : List ByteArray), a.length + b.length ≤ f → a.Pairwise ltS → b.Pairwise ltS → (∀ x, x ∈ (mrg f a b).1 ↔ x ∈ a ∨ x ∈ b) ∧ (mrg f a b).1.Pairwise ltS ∧ ((mrg f a b).2 = true ↔ ∃ x, x ∈ a ∧ x ∈ b)
  | f, [], b, _, _, hb => by
    rw [mrg_nil']
    exact ⟨fun x => by simp, hb, by simp⟩
  | f, x :: a, [], _, ha, _ => by
    rw [mrg_nil]
    exact ⟨fun z => by simp, ha, by simp⟩
  | 0, x :: a, y :: b, h, _, _ => by simp at h
  | f + 1, x :: a, y :: b, h, ha, hb => by
    obtain ⟨hxa, ha'⟩ := List.pairwise_cons.1 ha
    obtain ⟨hyb, hb'⟩ := List.pairwise_cons.1 hb
    simp only [List.length_cons] at h
    rw [mrg]
    by_cases h1 : Op.bytesLess x.toList y.toList = true
    · have hlt : ltS x y := (su.bl_lt _ _).1 h1
      obtain ⟨i1, i2, i3⟩ := mrg_gen f a (y :: b) (by simp only [List.length_cons]; omega) ha' hb
      rw [if_pos h1]
      have hxl : ∀ z, z ∈ y :: b → ltS x z := fun z hz => by
        rcases List.mem_cons.1 hz with e | hz
        · rw [e]; exact hlt
        · exact ltS_trans hlt (hyb z hz)
      refine ⟨fun z => ?_, List.pairwise_cons.2 ⟨fun z hz => ?_, i2⟩, ?_⟩
      · show z ∈ x :: _ ↔ _
        rw [List.mem_cons, i1, List.mem_cons (a := z) (b := x)]
        exact or_assoc.symm
      · rcases (i1 z).1 hz with h | h
        · exact hxa z h
        · exact hxl z h
      · show (mrg f a (y :: b)).2 = true ↔ _
        rw [i3]
        refine ⟨fun ⟨z, p, q⟩ => ⟨z, List.mem_cons_of_mem _ p, q⟩, fun ⟨z, p, q⟩ => ?_⟩
        rcases List.mem_cons.1 p with e | p
        · rw [e] at q
          exact absurd (hxl x q) (ltS_irr x)
        · exact ⟨z, p, q⟩
    · rw [if_neg h1]
      have hn1 := not_less h1
      by_cases h2 : Op.bytesLess y.toList x.toList = true
      · have hlt : ltS y x := (su.bl_lt _ _).1 h2
        obtain ⟨i1, i2, i3⟩ := mrg_gen f (x :: a) b (by simp only [List.length_cons]; omega) ha hb'
        rw [if_pos h2]
        have hyl : ∀ z, z ∈ x :: a → ltS y z := fun z hz => by
          rcases List.mem_cons.1 hz with e | hz
          · rw [e]; exact hlt
          · exact ltS_trans hlt (hxa z hz)
        refine ⟨fun z => ?_, List.pairwise_cons.2 ⟨fun z hz => ?_, i2⟩, ?_⟩
        · show z ∈ y :: _ ↔ _
          rw [List.mem_cons, i1, List.mem_cons (a := z) (b := y)]
          exact or_left_comm
        · rcases (i1 z).1 hz with h | h
          · exact hyl z h
          · exact hyb z h
        · show (mrg f (x :: a) b).2 = true ↔ _
          rw [i3]
          refine ⟨fun ⟨z, p, q⟩ => ⟨z, p, List.mem_cons_of_mem _ q⟩, fun ⟨z, p, q⟩ => ?_⟩
          rcases List.mem_cons.1 q with e | q
          · rw [e] at p
            exact absurd (hyl y p) (ltS_irr y)
          · exact ⟨z, p, q⟩
      · have hn2 := not_less h2
        have hxy : x = y := by
          by_cases e : x = y
          · exact e
          · exact absurd (ltS_tri x y hn1 e) hn2
        subst hxy
        obtain ⟨i1, i2, i3⟩ := mrg_gen f a (x :: b) (by simp only [List.length_cons]; omega) ha' hb
        rw [if_neg h2]
        refine ⟨fun z => ?_, i2, ?_⟩
        · show z ∈ (mrg f a (x :: b)).1 ↔ _
          rw [i1]
          simp only [List.mem_cons]
          constructor
          · rintro (h | h)
            · exact .inl (.inr h)
            · exact .inr h
          · rintro ((h | h) | h)
            · exact .inr (.inl h)
            · exact .inl h
            · exact .inr h
        · exact ⟨fun _ => ⟨x, List.mem_cons_self, List.mem_cons_self⟩, fun _ => rfl⟩
/-- the outer names of both -/
noncomputable def sdO (a b : Big) : List ByteArray := sortU (a.outer ++ b.outer)
open Classical in
/-- two lists have no common element -/
noncomputable def apB (xs ys : List ByteArray) : Bool := decide (∀ x ∈ xs, x ∉ ys)
open Classical in
theorem ap_yes {xs ys : List ByteArray} (h : apB xs ys = true) : ∀ x ∈ xs, x ∉ ys := by
  unfold apB at h
  exact of_decide_eq_true h
open Classical in
theorem ap_no {xs ys : List ByteArray} (h : apB xs ys = false) : ∃ x, x ∈ xs ∧ x ∈ ys := by
  unfold apB at h
  have h := of_decide_eq_false h
  exact Classical.byContradiction fun hn => h fun x hx hy => hn ⟨x, hx, hy⟩
open Classical in
theorem ap_of {xs ys : List ByteArray} (h : ∀ x ∈ xs, x ∉ ys) : apB xs ys = true := by unfold apB; exact decide_eq_true h
open Classical in
theorem ap_not {xs ys : List ByteArray} {x : ByteArray} (h : x ∈ xs) (k : x ∈ ys) : apB xs ys = false := by unfold apB; exact decide_eq_false fun hn => hn x h k
theorem mrg_names {a b : Big} (ha : NamesP a.outer) (hb : NamesP b.outer) : mrg (a.outer.length + b.outer.length) a.outer b.outer = (sdO a b, !apB a.outer b.outer) := by
  obtain ⟨h1, h2, h3⟩ := mrg_gen (a.outer.length + b.outer.length) a.outer b.outer (Nat.le_refl _) (names_ltS ha) (names_ltS hb)
  have e1 : (mrg (a.outer.length + b.outer.length) a.outer b.outer).1 = sdO a b := sortU_is h2 (fun x => by rw [h1, List.mem_append])
  have e2 : (mrg (a.outer.length + b.outer.length) a.outer b.outer).2 = !apB a.outer b.outer := by
    cases hp : apB a.outer b.outer with
    | true =>
      cases hq : (mrg (a.outer.length + b.outer.length) a.outer b.outer).2 with
      | false => rfl
      | true =>
        obtain ⟨x, p, q⟩ := h3.1 hq
        exact absurd q (ap_yes hp x p)
    | false =>
      obtain ⟨x, p, q⟩ := ap_no hp
      rw [h3.2 ⟨x, p, q⟩]
      rfl
  rw [← e1, ← e2]
theorem sdO_len (a b : Big) : (sdO a b).length ≤ a.outer.length + b.outer.length := by
  have := sortU_len (a.outer ++ b.outer)
  rw [List.length_append] at this
  exact this
theorem sdO_mem {a b : Big} {s : ByteArray} (h : s ∈ sdO a b) : s ∈ a.outer ∨ s ∈ b.outer := by
  unfold sdO at h
  rw [sortU_mem, List.mem_append] at h
  exact h
noncomputable def lfS (a b : Big) : List Int := lkL 0 (a.edges + b.edges) a (sdO a b)
noncomputable def rgS (a b : Big) : List Int := lkL a.edges (a.edges + b.edges) b (sdO a b)
/-- the places of the second one -/
def pcS (a b : Big) : Int → Int := pcF (rtsF a.roots b.roots.toNat) a.nodes.length
noncomputable def wnA (a b : Big) : List Wr := (relB (lkF (lfS a b)) a).inner
noncomputable def wnB (a b : Big) : List Wr := (relB (lkF (rgS a b)) b).inner
/-- two Bigraphs side by side, with these inner names -/
noncomputable def sdB (a b : Big) (ws : List Wr) : Big :=
  ⟨a.roots + b.roots, (relB (lkF (lfS a b)) a).nodes ++ (plB (pcS a b) (relB (lkF (rgS a b)) b)).nodes, a.sites ++ b.sites.map (pcS a b), a.edges + b.edges, sdO a b, ws⟩
/-- an inner name in its place -/
def insW (x : Wr) : List Wr → List Wr
  | [] => [x]
  | y :: l => if Op.bytesLess y.name.toList x.name.toList = true then y :: insW x l else x :: y :: l
def innW (xs ys : List Wr) : List Wr := ys.foldl (fun o x => insW x o) xs
theorem insW_perm (x : Wr) : ∀ l, (insW x l).Perm (x :: l)
  | [] => List.Perm.refl _
  | y :: l => by
    unfold insW
    split
    · exact ((insW_perm x l).cons y).trans (List.Perm.swap x y l)
    · exact List.Perm.refl _
theorem innW_perm (xs : List Wr) : ∀ ys, (innW xs ys).Perm (xs ++ ys) := fun ys => by
  unfold innW
  induction ys generalizing xs with
  | nil => rw [List.append_nil]; exact List.Perm.refl _
  | cons y ys ih =>
    rw [List.foldl_cons]
    refine (ih (insW y xs)).trans ?_
    refine ((insW_perm y xs).append_right ys).trans ?_
    exact List.perm_middle.symm
def leW (x y : Wr) : Prop := ¬ ltS y.name x.name
theorem insW_pw (x : Wr) : ∀ l, l.Pairwise leW → (insW x l).Pairwise leW
  | [], _ => by simp [insW]
  | y :: l, h => by
    obtain ⟨h1, h2⟩ := List.pairwise_cons.1 h
    unfold insW
    split
    · next hl =>
      have hl : ltS y.name x.name := (su.bl_lt _ _).1 hl
      refine List.pairwise_cons.2 ⟨fun z hz => ?_, insW_pw x l h2⟩
      rcases List.mem_cons.1 ((insW_perm x l).mem_iff.1 hz) with e | hz
      · rw [e]
        exact fun hh => ltS_irr _ (ltS_trans hl hh)
      · exact h1 z hz
    · next hl =>
      have hl := not_less hl
      refine List.pairwise_cons.2 ⟨fun z hz => ?_, h⟩
      rcases List.mem_cons.1 hz with e | hz
      · rw [e]; exact hl
      · intro hh
        by_cases e : y.name = x.name
        · exact h1 z hz (by rw [e]; exact hh)
        · have := ltS_tri _ _ hl e
          exact h1 z hz (ltS_trans hh this)
theorem innW_pw (xs : List Wr) (h : xs.Pairwise leW) : ∀ ys, (innW xs ys).Pairwise leW := fun ys => by
  unfold innW
  induction ys generalizing xs with
  | nil => exact h
  | cons y ys ih => exact ih (insW y xs) (insW_pw y xs h)
theorem srt_pw {ws : List Wr} (h : SortW ws) : ws.Pairwise leW := by
  rw [List.pairwise_iff_getElem]
  intro i j hi hj hij hl
  have := h i j ws[i] ws[j] hij (List.getElem?_eq_getElem hi) (List.getElem?_eq_getElem hj)
  rw [(su.bl_lt _ _).2 hl] at this
  cases this
theorem pw_same {r : Wr → Wr → Prop} (hirr : ∀ a, ¬ r a a) (has : ∀ a b, r a b → ¬ r b a) : ∀ (l l' : List Wr), l.Pairwise r → l'.Pairwise r → (∀ x, x ∈ l ↔ x ∈ l') → l = l'
  | [], [], _, _, _ => rfl
  | [], y :: l', _, _, h => absurd ((h y).2 List.mem_cons_self) (by simp)
  | y :: l, [], _, _, h => absurd ((h y).1 List.mem_cons_self) (by simp)
  | x :: l, y :: l', h1, h2, h => by
    obtain ⟨a1, b1⟩ := List.pairwise_cons.1 h1
    obtain ⟨a2, b2⟩ := List.pairwise_cons.1 h2
    have e : x = y := by
      rcases List.mem_cons.1 ((h x).1 List.mem_cons_self) with e | hx
      · exact e
      · rcases List.mem_cons.1 ((h y).2 List.mem_cons_self) with e | hy
        · exact e.symm
        · exact absurd (a1 y hy) (has _ _ (a2 x hx))
    subst e
    refine congrArg (x :: ·) (pw_same hirr has l l' b1 b2 (fun z => ⟨fun hz => ?_, fun hz => ?_⟩))
    · rcases List.mem_cons.1 ((h z).1 (List.mem_cons_of_mem _ hz)) with e | hz'
      · rw [e] at hz; exact absurd (a1 x hz) (hirr x)
      · exact hz'
    · rcases List.mem_cons.1 ((h z).2 (List.mem_cons_of_mem _ hz)) with e | hz'
      · rw [e] at hz; exact absurd (a2 x hz) (hirr x)
      · exact hz'
theorem pw_strict : ∀ {l : List Wr}, l.Pairwise leW → (l.map (·.name)).Nodup → l.Pairwise (fun x y => ltS x.name y.name)
  | [], _, _ => List.Pairwise.nil
  | x :: l, h, hd => by
    obtain ⟨h1, h2⟩ := List.pairwise_cons.1 h
    rw [List.map_cons, List.nodup_cons] at hd
    refine List.pairwise_cons.2 ⟨fun z hz => ?_, pw_strict h2 hd.2⟩
    have hne : z.name ≠ x.name := fun e => hd.1 (by rw [← e]; exact List.mem_map_of_mem hz)
    exact ltS_tri z.name x.name (h1 z hz) hne
theorem names_nodup {ss : List ByteArray} (h : NamesP ss) : ss.Nodup := by
  have := names_ltS h
  exact this.imp (fun {a b} hl e => by rw [e] at hl; exact ltS_irr _ hl)
theorem wnA_names (a b : Big) : (wnA a b).map (·.name) = nms a.inner := by unfold wnA relB nms; rw [List.map_map]; rfl
theorem wnB_names (a b : Big) : (wnB a b).map (·.name) = nms b.inner := by unfold wnB relB nms; rw [List.map_map]; rfl
theorem wn_pw {ws : List Wr} (h : NamesP (ws.map (·.name))) : ws.Pairwise leW := by
  have h := names_ltS h
  rw [List.pairwise_map] at h
  exact h.imp (fun {x y} hl hh => ltS_irr _ (ltS_trans hl hh))
/-- the inner names of both, in order -/
noncomputable def sdW (a b : Big) : List Wr := innW (wnA a b) (wnB a b)
theorem sdW_is {cs : List Ctl} {a b : Big} {ws : List Wr} (ha : bigB cs a = true) (hb : bigB cs b = true) (hp : apB (nms a.inner) (nms b.inner) = true) (hperm : ws.Perm (wnA a b ++ wnB a b)) (hs : SortW ws) : ws = sdW a b := by
  have hna : NamesP (nms a.inner) := (big_of ha).2.2.2.1
  have hnb : NamesP (nms b.inner) := (big_of hb).2.2.2.1
  have hnd : ((wnA a b ++ wnB a b).map (·.name)).Nodup := by
    rw [List.map_append, wnA_names, wnB_names, List.nodup_append]
    exact ⟨names_nodup hna, names_nodup hnb, fun x hx y hy e => ap_yes hp x hx (by rw [e]; exact hy)⟩
  have hpi := innW_perm (wnA a b) (wnB a b)
  refine pw_same (r := fun x y => ltS x.name y.name) (fun x => ltS_irr _) (fun x y h k => ltS_irr _ (ltS_trans h k)) ws (sdW a b) (pw_strict (srt_pw hs) ?_) (pw_strict (innW_pw _ (wn_pw (by rw [wnA_names]; exact hna)) _) ?_) (fun x => ?_)
  · exact ((hperm.map (·.name)).nodup_iff).2 hnd
  · exact ((hpi.map (·.name)).nodup_iff).2 hnd
  · rw [hperm.mem_iff]
    exact hpi.mem_iff.symm
theorem sd_bad {cs : List Ctl} {a b : Big} {ws : List Wr} (hp : apB (nms a.inner) (nms b.inner) = false) (hperm : ws.Perm (wnA a b ++ wnB a b)) : bigB cs (sdB a b ws) = false := by
  refine big_false fun h => ?_
  have hn : NamesP (ws.map (·.name)) := h.2.2.2.1
  have hd := names_nodup hn
  have hd2 := ((hperm.map (·.name)).nodup_iff).1 hd
  rw [List.map_append, wnA_names, wnB_names, List.nodup_append] at hd2
  obtain ⟨x, p, q⟩ := ap_no hp
  exact hd2.2.2 x p x q rfl
noncomputable def ppP (cs : List Ctl) (a b : Big) : Bool := bigB cs a && bigB cs b && apB (nms a.inner) (nms b.inner)
noncomputable def ppQ (cs : List Ctl) (a b : Big) : Bool := ppP cs a b && bigB cs (sdB a b (sdW a b))
noncomputable def ppR (cs : List Ctl) (a b : Big) : Big := if ppP cs a b = true then giveR cs (sdB a b (sdW a b)) else zeroBig
theorem pp_no {cs : List Ctl} {a b : Big} (h : ppP cs a b = false) : ppQ cs a b = false ∧ ppR cs a b = zeroBig := by
  unfold ppQ ppR
  rw [h]
  exact ⟨rfl, if_neg (by decide)⟩
theorem pp_yes {cs : List Ctl} {a b : Big} (h : ppP cs a b = true) : ppQ cs a b = bigB cs (sdB a b (sdW a b)) ∧ ppR cs a b = giveR cs (sdB a b (sdW a b)) := by
  unfold ppQ ppR
  rw [h]
  exact ⟨rfl, if_pos rfl⟩
theorem pp_impl {cs : List Ctl} {a b : Big} {ws : List Wr} (ha : bigB cs a = true) (hb : bigB cs b = true) (hperm : ws.Perm (wnA a b ++ wnB a b)) (hs : SortW ws) : bigB cs (sdB a b ws) = ppQ cs a b ∧ giveR cs (sdB a b ws) = ppR cs a b := by
  cases hp : apB (nms a.inner) (nms b.inner) with
  | true =>
    have h := pp_yes (cs := cs) (a := a) (b := b) (by unfold ppP; rw [ha, hb, hp]; rfl)
    rw [h.1, h.2, sdW_is ha hb hp hperm hs]
    exact ⟨rfl, rfl⟩
  | false =>
    have h := pp_no (cs := cs) (a := a) (b := b) (by unfold ppP; rw [ha, hb, hp]; rfl)
    have hb := sd_bad (cs := cs) hp hperm
    rw [h.1, h.2, hb]
    refine ⟨rfl, ?_⟩
    unfold giveR
    rw [hb]
    exact if_neg (by decide)
theorem ppR_len (cs : List Ctl) (a b : Big) : bigMk (ppR cs a b) ≤ 1048576 := by
  unfold ppR
  split
  · exact give_len (fun h => big_mk h)
  · exact zero_len
theorem pcS_in {cs : List Ctl} {a b : Big} (ha : bigB cs a = true) (hb : bigB cs b = true) {q : Int} (hq : -b.roots ≤ q ∧ q ≤ 8) : -1000 ≤ pcS a b q ∧ pcS a b q ≤ 1000 := by
  have hya := sizes_of (big_of ha).2.1
  have hyb := sizes_of (big_of hb).2.1
  refine pc_in (fun z hz => ?_) ⟨by omega, by omega⟩ (by omega)
  unfold rtsF at hz
  obtain ⟨i, hi, rfl⟩ := List.mem_map.1 hz
  have := List.mem_range.1 hi
  omega
theorem sd_tame {cs : List Ctl} {a b : Big} {ws : List Wr} (ha : bigB cs a = true) (hb : bigB cs b = true) (hSa : BigS a) (hSb : BigS b) (hperm : ws.Perm (wnA a b ++ wnB a b)) : Tame (sdB a b ws) := by
  have hya := sizes_of (big_of ha).2.1
  have hyb := sizes_of (big_of hb).2.1
  have ta := tame_good ha hSa
  have tb := tame_good hb hSb
  have hol := sdO_len a b
  have hwl := hperm.length_eq
  unfold sdB
  refine tame_two ha hb hSa hSb (by omega) (by omega) (fun l hl => ?_) (fun l hl => ?_) (fun q hq => pcS_in ha hb hq) (by rw [List.length_append, List.length_map]; omega) (fun z hz => ?_) (by omega) (fun u hu => ?_) ?_ (fun x hx => ?_)
  · have := lkL_in (z := 0) (E := a.edges + b.edges) (ou := sdO a b) ha ⟨by decide, by decide⟩ ⟨by omega, by omega⟩ (by omega) hl
    unfold lfS
    omega
  · have := lkL_in (z := a.edges) (E := a.edges + b.edges) (ou := sdO a b) hb ⟨by omega, by omega⟩ ⟨by omega, by omega⟩ (by omega) hl
    unfold rgS
    omega
  · rcases List.mem_append.1 hz with h | h
    · exact ta.st z h
    · obtain ⟨y, hy, rfl⟩ := List.mem_map.1 h
      exact pcS_in ha hb ((par_le hb).2 y hy)
  · rcases sdO_mem hu with h | h
    · exact ta.on u h
    · exact tb.on u h
  · rw [hwl, List.length_append]
    unfold wnA wnB relB
    simp only [List.length_map]
    omega
  · rcases List.mem_append.1 (hperm.mem_iff.1 hx) with h | h
    · obtain ⟨y, hy, rfl⟩ := List.mem_map.1 (show x ∈ a.inner.map _ from h)
      have := lkL_in (z := 0) (E := a.edges + b.edges) (ou := sdO a b) ha ⟨by decide, by decide⟩ ⟨by omega, by omega⟩ (by omega) ((big_lks ha).2 y hy)
      exact ⟨(ta.iw y hy).1, by show -1000 ≤ lkF (lfS a b) y.link; unfold lfS; omega, by show lkF (lfS a b) y.link ≤ 1000; unfold lfS; omega⟩
    · obtain ⟨y, hy, rfl⟩ := List.mem_map.1 (show x ∈ b.inner.map _ from h)
      have := lkL_in (z := a.edges) (E := a.edges + b.edges) (ou := sdO a b) hb ⟨by omega, by omega⟩ ⟨by omega, by omega⟩ (by omega) ((big_lks hb).2 y hy)
      exact ⟨(tb.iw y hy).1, by show -1000 ≤ lkF (rgS a b) y.link; unfold rgS; omega, by show lkF (rgS a b) y.link ≤ 1000; unfold rgS; omega⟩
end Go.Proofs.YtfjgapkjpmkplaaGreat.sd
