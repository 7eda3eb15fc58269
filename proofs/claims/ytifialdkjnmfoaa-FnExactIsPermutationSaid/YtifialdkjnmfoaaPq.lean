/- IsPermutation of spec and impl. -/
import Derived.Test.YtifialdkjnmfoaaKd
import Derived.Test.YtifialdkjnmfoaaShd
import Derived.Test.YtifialdkjnmfoaaPm
import Derived.Test.YtifialdkjnmfoaaChd
namespace Go.Proofs.Ytifialdkjnmfoaa.pq
open kit bg sg opn strs only hb sig isig un over gn nm inn ht gd im pt marks eqs hc hi hw hn rs br bm bw cf lf ib isa lawb lw abv tp pl cl has pm shd mb rt kd chd
open Go.RowKit
set_option linter.unusedVariables false

/-- what a valid Bigraph must be to be a permutation -/
noncomputable def permQ (b : Big) : Bool := ofB placQ b && eachB (rnums b) b.roots.toNat
theorem each_once {zs : List Int} {n : Nat} (h : eachB zs n = true) {k : Nat} {z : Int} (hz : zs[k]? = some z) : z ∉ zs.take k := fun hm => by
  have := perm_bad hz (each_of h).2 (.inr hm)
  rw [h] at this
  cases this
theorem sel_none {P : Nat → Bool} : ∀ k, (∀ i, i < k → P i = false) → sel P k = []
  | 0, _ => rfl
  | k + 1, h => by rw [sel_no (h k (Nat.lt_succ_self k))]; exact sel_none k (fun i hi => h i (by omega))
theorem sel_once {P : Nat → Bool} : ∀ k, (∀ j, j < k → P j = true → ∀ i, i < j → P i = false) → (sel P k).length ≤ 1
  | 0, _ => Nat.zero_le _
  | k + 1, h => by
    cases hp : P k with
    | false => rw [sel_no hp]; exact sel_once k (fun j hj => h j (by omega))
    | true => rw [sel_yes hp, sel_none k (h k (Nat.lt_succ_self k) hp)]; exact Nat.le_refl _
theorem sel_ex {P : Nat → Bool} : ∀ k, (sel P k).length ≠ 0 → ∃ i, i < k ∧ P i = true
  | 0, h => absurd rfl h
  | k + 1, h => by
    cases hp : P k with
    | false =>
      rw [sel_no hp] at h
      obtain ⟨i, hi, hq⟩ := sel_ex k h
      exact ⟨i, by omega, hq⟩
    | true => exact ⟨k, Nat.lt_succ_self k, hp⟩
theorem sel_pos {P : Nat → Bool} {i : Nat} (hp : P i = true) : ∀ k, i < k → 0 < (sel P k).length
  | 0, h => absurd h (Nat.not_lt_zero i)
  | k + 1, h => by
    cases hk : P k with
    | false =>
      rw [sel_no hk]
      have : i ≠ k := fun e => by rw [e, hk] at hp; cases hp
      exact sel_pos hp k (by omega)
    | true => rw [sel_yes hk, List.length_append]; simp
theorem plac_nodes {b : Big} (h : ofB placQ b = true) : b.nodes = [] := by
  unfold ofB placQ at h
  simp only [Bool.and_eq_true, decide_eq_true_eq] at h
  exact List.eq_nil_of_length_eq_zero h.1.1.1
theorem rnums_site {cs : List Ctl} {b : Big} (hg : bigB cs b = true) (hn : b.nodes = []) {i : Nat} {z : Int} (hz : b.sites[i]? = some z) : (rnums b)[i]? = some (-1 - z) := by
  rw [rnums_at hz]
  have := ((good_sites hg).2.2.1 i z hz).2
  rw [hn] at this
  rw [topF_neg (by simpa using this)]
theorem holes_one {cs : List Ctl} {b : Big} (hg : bigB cs b = true) (hn : b.nodes = []) (he : eachB (rnums b) b.roots.toNat = true) {r : Nat} (hr : (r : Int) < b.roots) : (sel (siteP b.sites (-1 - r)) b.sites.length).length = 1 := by
  have h1 : (sel (siteP b.sites (-1 - r)) b.sites.length).length ≤ 1 := by
    refine sel_once _ (fun j hj hp i hi => ?_)
    have ej : b.sites[j]? = some (b.sites[j]'hj) := List.getElem?_eq_getElem hj
    have ei : b.sites[i]? = some (b.sites[i]'(by omega)) := List.getElem?_eq_getElem (by omega)
    rw [site_at ej] at hp
    have hzj := of_decide_eq_true hp
    rw [site_at ei]
    refine decide_eq_false (fun hzi => ?_)
    have rj := rnums_site hg hn ej
    have ri := rnums_site hg hn ei
    rw [hzj] at rj
    rw [hzi] at ri
    refine each_once he rj (List.mem_of_getElem? (i := i) ?_)
    rw [List.getElem?_take_of_lt hi, ri]
  have h2 : 0 < (sel (siteP b.sites (-1 - r)) b.sites.length).length := by
    obtain ⟨i, hi⟩ := List.getElem?_of_mem ((each_of he).1 r (by omega))
    have hil := (List.getElem?_eq_some_iff.1 hi).1
    rw [rnums_len] at hil
    have ei : b.sites[i]? = some (b.sites[i]'hil) := List.getElem?_eq_getElem hil
    have := rnums_site hg hn ei
    rw [hi] at this
    injection this with this
    refine sel_pos (i := i) ?_ _ hil
    rw [site_at ei]
    exact decide_eq_true (by omega)
  omega
theorem each_holes {cs : List Ctl} {b : Big} (hg : bigB cs b = true) (hn : b.nodes = []) (hl : (b.sites.length : Int) = b.roots) (h : ∀ r : Nat, (r : Int) < b.roots → (sel (siteP b.sites (-1 - r)) b.sites.length).length = 1) : eachB (rnums b) b.roots.toNat = true := by
  refine each_true ⟨fun r hr => ?_, by rw [rnums_len]; omega⟩
  obtain ⟨i, hi, hp⟩ := sel_ex b.sites.length (show (sel (siteP b.sites (-1 - (r : Int))) b.sites.length).length ≠ 0 by rw [h r (by omega)]; omega)
  have ei : b.sites[i]? = some (b.sites[i]'hi) := List.getElem?_eq_getElem hi
  rw [site_at ei] at hp
  have hz := of_decide_eq_true hp
  have ri := rnums_site hg hn ei
  rw [hz] at ri
  have := List.mem_of_getElem? ri
  rw [show -1 - (-1 - (r : Int)) = r by omega] at this
  exact this
theorem permQ_bad {cs : List Ctl} {b : Big} (hg : bigB cs b = true) {r : Nat} (hr : (r : Int) < b.roots) (h : (sel (siteP b.sites (-1 - r)) b.sites.length).length ≠ 1) : permQ b = false := by
  cases hq : permQ b with
  | false => rfl
  | true =>
    unfold permQ at hq
    simp only [Bool.and_eq_true] at hq
    exact absurd (holes_one hg (plac_nodes hq.1) hq.2 hr) h
theorem permQ_end {cs : List Ctl} {b : Big} (hg : bigB cs b = true) (h : ∀ r : Nat, (r : Int) < b.roots → (sel (siteP b.sites (-1 - r)) b.sites.length).length = 1) : permQ b = (ofB placQ b && decide ((b.sites.length : Int) = b.roots)) := by
  unfold permQ
  cases hp : ofB placQ b with
  | false => rfl
  | true =>
    rw [Bool.true_and, Bool.true_and]
    by_cases hl : (b.sites.length : Int) = b.roots
    · rw [decide_eq_true hl]; exact each_holes hg (plac_nodes hp) hl h
    · rw [decide_eq_false hl]
      refine each_false (fun he => hl ?_)
      have := he.2
      rw [rnums_len] at this
      have := (good_sites hg).2.2.2.1
      omega

set_option maxRecDepth 20000 in
set_option maxHeartbeats 1600000 in
theorem iPq_leaf (A1 A2 A4 A5 : Option Addr) (n1 n2 n4 n5 c1 c2 c4 c5 : Nat) (cs : List Ctl) (b : Big) (w0 w : World) (h1 : NdsAt w0 w0.heap.size A1 n1 b.nodes) (h2 : IntsAt w0 w0.heap.size A2 n2 b.sites) (l4 : b.outer.length = n4) (l5 : b.inner.length = n5) (hb0 : Below w0.heap.size w0 w) (hg : bigB cs b = true) :
    Calls Try.prog 121 #[.agg #[.int .i64 b.roots, .slice A1 n1 c1, .slice A2 n2 c2, .int .i64 b.edges, .slice A4 n4 c4, .slice A5 n5 c5]] w (Post (permQ b) w) := by
  have hGs := good_sites hg
  have hz := sizes_of (big_of hg).2.1
  have l1 := h1.1
  have l2 := h2.len
  have HBox : Hid (BoxAt (w.alloc (.cells #[.int .i64 b.roots, .slice A1 n1 c1, .slice A2 n2 c2, .int .i64 b.edges, .slice A4 n4 c4, .slice A5 n5 c5] 39)) w.heap.size 39 (.int .i64 b.roots) (.slice A1 n1 c1) (.slice A2 n2 c2) (.int .i64 b.edges) (.slice A4 n4 c4) (.slice A5 n5 c5)) := Lib.hid (six_new w _ _ _ _ _ _ _)
  have HB0 := Lib.hid ((Below.refl w.heap.size w).alloc (Nat.le_refl _) (.cells #[.int .i64 b.roots, .slice A1 n1 c1, .slice A2 n2 c2, .int .i64 b.edges, .slice A4 n4 c4, .slice A5 n5 c5] 39))
  obtain ⟨W, hW⟩ : ∃ W, w.alloc (.cells #[.int .i64 b.roots, .slice A1 n1 c1, .slice A2 n2 c2, .int .i64 b.edges, .slice A4 n4 c4, .slice A5 n5 c5] 39) = W := ⟨_, rfl⟩
  have hWz : W.heap.size = w.heap.size + 1 := by rw [← hW]; simp
  rw [hW] at HBox HB0
  have HWq := Lib.hid hW
  have hWs : w.heap.size < W.heap.size := by omega
  clear hW
  have CP := Lib.hid (fun W2 => iPlac_leaf A1 A2 A4 A5 n1 n2 n4 n5 c1 c2 c4 c5 b.roots b.edges W2 (by omega) (by omega) (by omega) (by omega))
  have CR := Lib.hid (fun W2 (hb2 : Below w0.heap.size w0 W2) => ros_any A1 A2 A4 A5 n1 n2 n4 n5 c1 c2 c4 c5 cs b w0 W2 h1 h2 hb2 hg)
  have HW0 := Lib.hid (hb0.trans (HB0.out.mono hb0.size))
  obtain ⟨R, hR⟩ : ∃ R : Nat, b.roots = R := ⟨b.roots.toNat, by have := hGs.2.2.2.1; omega⟩
  have hRl : R ≤ 1048576 := by have := hGs.2.2.2.2.1; omega
  have hn2 : n2 ≤ 1048576 := by omega
  have HE : Hid (permQ b = (placQ b.roots n1 n2 b.edges n4 n5 && eachB (rnums b) R)) := Lib.hid (by unfold permQ; rw [ofB_at l1 l2 l4 l5, hR, Int.toNat_natCast])
  have CM := Lib.hid (fun (g : Nat) (W2 : World) (hi : IntsAt W2 W2.heap.size (some ⟨g, 0, none⟩) n2 (rnums b)) => isPermuted_any (some ⟨g, 0, none⟩) n2 n2 (rnums b) R W2 hi hn2 hRl (fun z hz => by
    have := rnums_in hg z hz
    exact Go.WalkArith.wf_i64 (by omega)))
  have HLr : Hid ((rnums b).length = n2) := Lib.hid (by rw [rnums_len]; exact l2)
  obtain ⟨x0, x1, x2, x3, x4, x5⟩ := HBox.out.get
  rw [hR] at x0
  rw [HE.out]
  obtain ⟨p, hp⟩ : ∃ p, placQ b.roots n1 n2 b.edges n4 n5 = p := ⟨_, rfl⟩
  obtain ⟨q, hq⟩ : ∃ q, eachB (rnums b) R = q := ⟨_, rfl⟩
  rw [hp] at CP ⊢
  rw [hq] at CM ⊢
  have HBox2 := HBox
  rw [hR] at HBox2 HWq CP CR ⊢
  clear hp hq hGs hz hb0 l1 l2 hg
  cases p with
  | false =>
    go_enter Try.func121, Try.ntmps121
    go_wp2_with fail
    rw [HWq.out]
    go_wp2_with fail
    have z0 := Over.get x0 hWs
    have z1 := Over.get x1 hWs
    have z2 := Over.get x2 hWs
    have z3 := Over.get x3 hWs
    have z4 := Over.get x4 hWs
    have z5 := Over.get x5 hWs
    have HK := Lib.hid (fun y : Over W => over_call (CP.out y.w))
    clear x0 x1 x2 x3 x4 x5
    refine wp_region_over (by kernel_rfl) (by kernel_rfl) ?_
    repeat (go_big_quiet_step ((go_at_call 178; exact HK.out _)))
    refine wpQuiet_nil ?_
    rintro _ ⟨y, rfl⟩
    have hy := y.below
    obtain ⟨w9, hw9⟩ : ∃ w9, y.w = w9 := ⟨_, rfl⟩
    rw [hw9] at hy ⊢
    clear hw9 z0 z1 z2 z3 z4 z5
    have hb9 := HB0.out.trans (hy.mono HB0.out.size)
    clear hy
    go_wp2_with fail
    go_ret
    exact ⟨rfl, hb9⟩
  | true =>
    go_enter Try.func121, Try.ntmps121
    go_wp2_with fail
    rw [HWq.out]
    go_wp2_with fail
    have hkD := (Below.refl W.heap.size W).drew
    go_region_held3 (fun w' => w'.cell? ⟨w.heap.size, 0, none⟩ = some (.int .i64 R) ∧ w'.cell? ⟨w.heap.size, 1, none⟩ = some (.slice A1 n1 c1) ∧ w'.cell? ⟨w.heap.size, 2, none⟩ = some (.slice A2 n2 c2) ∧ w'.cell? ⟨w.heap.size, 3, none⟩ = some (.int .i64 b.edges) ∧ w'.cell? ⟨w.heap.size, 4, none⟩ = some (.slice A4 n4 c4) ∧ w'.cell? ⟨w.heap.size, 5, none⟩ = some (.slice A5 n5 c5)) (first | exact (HBox2.out.below hk4 hWs).get | exact (HBox2.out.below hk3 hWs).get | exact (HBox2.out.below hk2 hWs).get | exact (HBox2.out.below hkD hWs).get)
      (first
       | (go_at_call 178; refine (CP.out _).mono ?_; rintro e w2 ⟨rfl, hb2⟩; have hk2 := hkD.trans (hb2.mono hkD.size))
       | (go_at_call 179; refine (CR.out w2 (HW0.out.trans (hk2.mono HW0.out.size))).mono ?_; rintro e w3 ⟨g, rfl, hg1, hg2, hrw, hb3⟩; have hk3 := hk2.trans (hb3.mono hk2.size))
       | (go_at_call 93; refine (CM.out g w3 (ints_row hrw (Nat.le_refl _) hg2 HLr.out (fun _ _ => rfl))).mono ?_; rintro e w4 ⟨rfl, hb4⟩; have hk4 := hk3.trans (hb4.mono hk3.size)))
    have hb9 := HB0.out.trans (hk4.mono HB0.out.size)
    clear hk2 hk3 hk4 hb2 hb3 hb4 hkD
    go_wp2_with fail
    go_ret
    exact ⟨by rw [Bool.true_and]; rfl, hb9⟩

set_option maxRecDepth 20000 in
set_option maxHeartbeats 1600000 in
theorem sPq_leaf (A1 A2 A4 A5 : Option Addr) (n1 n2 n4 n5 c1 c2 c4 c5 : Nat) (cs : List Ctl) (b : Big) (w0 w : World) (h1 : NdsAt w0 w0.heap.size A1 n1 b.nodes) (h2 : IntsAt w0 w0.heap.size A2 n2 b.sites) (l4 : b.outer.length = n4) (l5 : b.inner.length = n5) (hb0 : Below w0.heap.size w0 w) (hg : bigB cs b = true) :
    Calls Try.prog 120 #[.agg #[.int .i64 b.roots, .slice A1 n1 c1, .slice A2 n2 c2, .int .i64 b.edges, .slice A4 n4 c4, .slice A5 n5 c5]] w (Post (permQ b) w) := by
  have hGs := good_sites hg
  have hz := sizes_of (big_of hg).2.1
  have l1 := h1.1
  have l2 := h2.len
  have HBox : Hid (BoxAt (w.alloc (.cells #[.int .i64 b.roots, .slice A1 n1 c1, .slice A2 n2 c2, .int .i64 b.edges, .slice A4 n4 c4, .slice A5 n5 c5] 39)) w.heap.size 39 (.int .i64 b.roots) (.slice A1 n1 c1) (.slice A2 n2 c2) (.int .i64 b.edges) (.slice A4 n4 c4) (.slice A5 n5 c5)) := Lib.hid (six_new w _ _ _ _ _ _ _)
  have HB0 := Lib.hid ((Below.refl w.heap.size w).alloc (Nat.le_refl _) (.cells #[.int .i64 b.roots, .slice A1 n1 c1, .slice A2 n2 c2, .int .i64 b.edges, .slice A4 n4 c4, .slice A5 n5 c5] 39))
  obtain ⟨W, hW⟩ : ∃ W, w.alloc (.cells #[.int .i64 b.roots, .slice A1 n1 c1, .slice A2 n2 c2, .int .i64 b.edges, .slice A4 n4 c4, .slice A5 n5 c5] 39) = W := ⟨_, rfl⟩
  have hWz : W.heap.size = w.heap.size + 1 := by rw [← hW]; simp
  rw [hW] at HBox HB0
  have HWq := Lib.hid hW
  have hWs : w.heap.size < W.heap.size := by omega
  clear hW
  have CP := Lib.hid (fun W2 => sPlac_leaf A1 A2 A4 A5 n1 n2 n4 n5 c1 c2 c4 c5 b.roots b.edges W2 (by omega) (by omega) (by omega) (by omega))
  have CH := Lib.hid (fun (p : Int) W2 (hb2 : Below w0.heap.size w0 W2) => holes_any (.int .i64 b.roots) (.slice A1 n1 c1) (.int .i64 b.edges) (.slice A4 n4 c4) (.slice A5 n5 c5) A2 n2 c2 b.sites p w0 W2 h2 hb2 (by omega))
  have HW0 := Lib.hid (hb0.trans (HB0.out.mono hb0.size))
  obtain ⟨R, hR⟩ : ∃ R : Nat, b.roots = R := ⟨b.roots.toNat, by have := hGs.2.2.2.1; omega⟩
  have hRl : R ≤ 4 := by have := hGs.2.2.2.2.1; omega
  have hn2 : n2 ≤ 1048576 := by omega
  have HO : Hid (ofB placQ b = placQ R n1 n2 b.edges n4 n5) := Lib.hid (by rw [ofB_at l1 l2 l4 l5, hR])
  have HL2 := Lib.hid l2
  have HG := Lib.hid hg
  have HR := Lib.hid hR
  rw [hR] at CP CH HBox HWq
  rw [hR]
  clear hg hGs hz hR hb0 l1 l2
  go_enter Try.func120, Try.ntmps120
  go_wp2_with fail
  rw [HWq.out]
  go_loopw [3] (fun i wr => ∃ k : Nat, k ≤ R ∧ i = .int .i64 k ∧ (∀ r : Nat, r < k → (sel (siteP b.sites (-1 - (r : Int))) n2).length = 1) ∧ Below W.heap.size W wr) (fun i _ => R - (intOf i).toNat)
  case atStart => exact ⟨0, Nat.zero_le _, rfl, fun j hj => absurd hj (Nat.not_lt_zero j), Below.refl _ _⟩
  case round =>
    obtain ⟨k, hk, rfl, hall, hbel⟩ := hrel
    have HA := Lib.hid hall
    have HBel := Lib.hid hbel
    have hbw := HW0.out.trans (hbel.mono HW0.out.size)
    obtain ⟨x0, x1, x2, x3, x4, x5⟩ := (HBox.out.below hbel hWs).get
    clear hall
    by_cases hlt : k < R
    · have C2 := CH.out (-1 - (k : Int)) wr hbw
      obtain ⟨L, hL⟩ : ∃ L, sel (siteP b.sites (-1 - (k : Int))) n2 = L := ⟨_, rfl⟩
      rw [hL] at C2
      have HL := Lib.hid hL
      have hll : L.length ≤ n2 := by rw [← hL]; exact sel_len _ _
      clear hL
      go_wp2_with fail
      refine C2.mono ?_
      rintro e w1 ⟨v1, rfl, ho, hb1⟩
      obtain ⟨g1, cap1, rfl, -, -, -, -⟩ := ho.at
      have HB1 := Lib.hid (HBel.out.trans (hb1.mono HBel.out.size))
      rw [List.length_map]
      obtain ⟨m, hm⟩ : ∃ m, L.length = m := ⟨_, rfl⟩
      rw [hm] at hll ⊢
      have HM := Lib.hid hm
      clear C2 ho hb1 hm hbel hbw x0 x1 x2 x3 x4 x5
      by_cases h1 : m = 1
      · subst h1
        go_wp2_with fail
        go_roundw
        case rel => exact ⟨k + 1, by omega, by go_num, fun r hr => by
          by_cases e : r = k
          · subst e; rw [HL.out, HM.out]
          · exact HA.out r (by omega), HB1.out⟩
        case measure => simp [intOf]; omega
      · have HN := Lib.hid (permQ_bad HG.out (r := k) (by rw [HR.out]; omega) (by rw [HL2.out, HL.out, HM.out]; exact h1))
        have h1' : ¬ ((m : Int) = 1) := by omega
        go_wp2_with fail
        go_ret
        exact ⟨by rw [HN.out]; rfl, HB0.out.trans (HB1.out.mono HB0.out.size)⟩
    · obtain rfl : k = R := by omega
      have HE := Lib.hid (permQ_end HG.out (fun r hr => by rw [HL2.out]; exact HA.out r (by rw [HR.out] at hr; omega)))
      rw [HO.out, HL2.out, HR.out] at HE
      obtain ⟨p, hp⟩ : ∃ p, placQ k n1 n2 b.edges n4 n5 = p := ⟨_, rfl⟩
      rw [hp] at CP HE
      clear hp
      cases p with
      | false =>
        go_wp2_with fail
        refine (CP.out wr).mono ?_
        rintro e w1 ⟨rfl, hb1⟩
        have HB1 := Lib.hid (HBel.out.trans (hb1.mono HBel.out.size))
        clear hb1 hbel hbw x0 x1 x2 x3 x4 x5
        go_wp2_with fail
        go_ret
        exact ⟨by rw [HE.out]; rfl, HB0.out.trans (HB1.out.mono HB0.out.size)⟩
      | true =>
        go_wp2_with fail
        refine (CP.out wr).mono ?_
        rintro e w1 ⟨rfl, hb1⟩
        have HB1 := Lib.hid (HBel.out.trans (hb1.mono HBel.out.size))
        obtain ⟨y0, y1, y2, y3, y4, y5⟩ := (HBox.out.below HB1.out hWs).get
        clear hb1 hbel hbw x0 x1 x2 x3 x4 x5
        go_wp2_with fail
        go_ret
        exact ⟨by rw [HE.out]; simp; rfl, HB0.out.trans (HB1.out.mono HB0.out.size)⟩

set_option maxRecDepth 20000 in
set_option maxHeartbeats 1600000 in
theorem sPq_any (A : Option Addr) (n c : Nat) (cs : List Ctl) (v : Value) (b : Big) (w : World) (hC : CtlsAt w w.heap.size A n cs) (hv : BigAt w w.heap.size v b) (hn : n ≤ 1048576) (hs : ∀ c ∈ cs, c.name.size ≤ 1048576) (hS : BigS b) (hw : BigW b) :
    Calls Try.prog 55 #[.slice A n c, v] w (Post (bigB cs b && permQ b) w) := by
  obtain ⟨A1, n1, c1, A2, n2, c2, A4, n4, c4, A5, n5, c5, rfl, h1, h2, h4, h5⟩ := hv
  have HBox : Hid (BoxAt (w.alloc (.cells #[.int .i64 b.roots, .slice A1 n1 c1, .slice A2 n2 c2, .int .i64 b.edges, .slice A4 n4 c4, .slice A5 n5 c5] 39)) w.heap.size 39 (.int .i64 b.roots) (.slice A1 n1 c1) (.slice A2 n2 c2) (.int .i64 b.edges) (.slice A4 n4 c4) (.slice A5 n5 c5)) := Lib.hid (six_new w _ _ _ _ _ _ _)
  have HB0 := Lib.hid ((Below.refl w.heap.size w).alloc (Nat.le_refl _) (.cells #[.int .i64 b.roots, .slice A1 n1 c1, .slice A2 n2 c2, .int .i64 b.edges, .slice A4 n4 c4, .slice A5 n5 c5] 39))
  obtain ⟨W, hW⟩ : ∃ W, w.alloc (.cells #[.int .i64 b.roots, .slice A1 n1 c1, .slice A2 n2 c2, .int .i64 b.edges, .slice A4 n4 c4, .slice A5 n5 c5] 39) = W := ⟨_, rfl⟩
  have hWz : W.heap.size = w.heap.size + 1 := by rw [← hW]; simp
  rw [hW] at HBox HB0
  have HWq := Lib.hid hW
  have hWs : w.heap.size < W.heap.size := by omega
  have hVW : BigAt W W.heap.size (.agg #[.int .i64 b.roots, .slice A1 n1 c1, .slice A2 n2 c2, .int .i64 b.edges, .slice A4 n4 c4, .slice A5 n5 c5]) b := BigAt.wide (BigAt.below ⟨_, _, _, _, _, _, _, _, _, _, _, _, rfl, h1, h2, h4, h5⟩ HB0.out) HB0.out.size
  clear hW hWz
  have C := l2Good_any A n c cs _ b W ((hC.below HB0.out).wide HB0.out.size) hVW hn hs hS hw
  obtain ⟨x0, x1, x2, x3, x4, x5⟩ := HBox.out.get
  obtain ⟨r, hr⟩ : ∃ r, permQ b = r := ⟨_, rfl⟩
  have CP := Lib.hid (fun (hg : bigB cs b = true) (w2 : World) (hb2 : Below w.heap.size w w2) => hr ▸ sPq_leaf A1 A2 A4 A5 n1 n2 n4 n5 c1 c2 c4 c5 cs b w w2 h1 h2 h4.strlen h5.1 hb2 hg)
  rw [hr]
  cases hq : bigB cs b with
  | false =>
    rw [hq] at C
    clear hq hr CP hVW
    go_enter Try.func55, Try.ntmps55
    go_wp2_with fail
    rw [HWq.out]
    go_wp2_with fail
    refine C.mono ?_
    rintro e w1 ⟨rfl, hb⟩
    have hb1 := HB0.out.trans (hb.mono HB0.out.size)
    clear x0 x1 x2 x3 x4 x5 C hb
    go_wp2_with fail
    go_ret
    exact ⟨rfl, hb1⟩
  | true =>
    rw [hq] at C
    have HQ := Lib.hid hq
    clear hq hr hVW
    go_enter Try.func55, Try.ntmps55
    go_wp2_with fail
    rw [HWq.out]
    go_wp2_with fail
    refine C.mono ?_
    rintro e w1 ⟨rfl, hb⟩
    have hb1 := HB0.out.trans (hb.mono HB0.out.size)
    have HBx1 := HBox.out.below hb hWs
    clear x0 x1 x2 x3 x4 x5 C hb
    obtain ⟨x0, x1, x2, x3, x4, x5⟩ := HBx1.get
    clear HBx1
    go_wp2_with fail
    refine (CP.out HQ.out w1 hb1).mono ?_
    rintro e w2 ⟨rfl, hb2⟩
    have hb3 := hb1.trans (hb2.mono hb1.size)
    clear hb2 x0 x1 x2 x3 x4 x5
    cases r with
    | false =>
      go_wp2_with fail
      go_ret
      exact ⟨rfl, hb3⟩
    | true =>
      go_wp2_with fail
      go_ret
      exact ⟨rfl, hb3⟩

set_option maxRecDepth 20000 in
set_option maxHeartbeats 1600000 in
theorem iPq_any (A : Option Addr) (n c : Nat) (cs : List Ctl) (v : Value) (b : Big) (w : World) (hC : CtlsAt w w.heap.size A n cs) (hv : BigAt w w.heap.size v b) (hn : n ≤ 1048576) (hs : ∀ c ∈ cs, c.name.size ≤ 1048576) (hS : BigS b) (hw : BigW b) :
    Calls Try.prog 56 #[.slice A n c, v] w (Post (bigB cs b && permQ b) w) := by
  obtain ⟨A1, n1, c1, A2, n2, c2, A4, n4, c4, A5, n5, c5, rfl, h1, h2, h4, h5⟩ := hv
  have HBox : Hid (BoxAt (w.alloc (.cells #[.int .i64 b.roots, .slice A1 n1 c1, .slice A2 n2 c2, .int .i64 b.edges, .slice A4 n4 c4, .slice A5 n5 c5] 39)) w.heap.size 39 (.int .i64 b.roots) (.slice A1 n1 c1) (.slice A2 n2 c2) (.int .i64 b.edges) (.slice A4 n4 c4) (.slice A5 n5 c5)) := Lib.hid (six_new w _ _ _ _ _ _ _)
  have HB0 := Lib.hid ((Below.refl w.heap.size w).alloc (Nat.le_refl _) (.cells #[.int .i64 b.roots, .slice A1 n1 c1, .slice A2 n2 c2, .int .i64 b.edges, .slice A4 n4 c4, .slice A5 n5 c5] 39))
  obtain ⟨W, hW⟩ : ∃ W, w.alloc (.cells #[.int .i64 b.roots, .slice A1 n1 c1, .slice A2 n2 c2, .int .i64 b.edges, .slice A4 n4 c4, .slice A5 n5 c5] 39) = W := ⟨_, rfl⟩
  have hWz : W.heap.size = w.heap.size + 1 := by rw [← hW]; simp
  rw [hW] at HBox HB0
  have HWq := Lib.hid hW
  have hWs : w.heap.size < W.heap.size := by omega
  have hVW : BigAt W W.heap.size (.agg #[.int .i64 b.roots, .slice A1 n1 c1, .slice A2 n2 c2, .int .i64 b.edges, .slice A4 n4 c4, .slice A5 n5 c5]) b := BigAt.wide (BigAt.below ⟨_, _, _, _, _, _, _, _, _, _, _, _, rfl, h1, h2, h4, h5⟩ HB0.out) HB0.out.size
  clear hW hWz
  have C := isBig_any A n c cs _ b W ((hC.below HB0.out).wide HB0.out.size) hVW hn hs hS hw
  obtain ⟨x0, x1, x2, x3, x4, x5⟩ := HBox.out.get
  obtain ⟨r, hr⟩ : ∃ r, permQ b = r := ⟨_, rfl⟩
  have CP := Lib.hid (fun (hg : bigB cs b = true) (w2 : World) (hb2 : Below w.heap.size w w2) => hr ▸ iPq_leaf A1 A2 A4 A5 n1 n2 n4 n5 c1 c2 c4 c5 cs b w w2 h1 h2 h4.strlen h5.1 hb2 hg)
  rw [hr]
  cases hq : bigB cs b with
  | false =>
    rw [hq] at C
    clear hq hr CP hVW
    go_enter Try.func56, Try.ntmps56
    go_wp2_with fail
    rw [HWq.out]
    go_wp2_with fail
    refine C.mono ?_
    rintro e w1 ⟨rfl, hb⟩
    have hb1 := HB0.out.trans (hb.mono HB0.out.size)
    clear x0 x1 x2 x3 x4 x5 C hb
    go_wp2_with fail
    go_ret
    exact ⟨rfl, hb1⟩
  | true =>
    rw [hq] at C
    have HQ := Lib.hid hq
    clear hq hr hVW
    go_enter Try.func56, Try.ntmps56
    go_wp2_with fail
    rw [HWq.out]
    go_wp2_with fail
    refine C.mono ?_
    rintro e w1 ⟨rfl, hb⟩
    have hb1 := HB0.out.trans (hb.mono HB0.out.size)
    have HBx1 := HBox.out.below hb hWs
    clear x0 x1 x2 x3 x4 x5 C hb
    obtain ⟨x0, x1, x2, x3, x4, x5⟩ := HBx1.get
    clear HBx1
    go_wp2_with fail
    refine (CP.out HQ.out w1 hb1).mono ?_
    rintro e w2 ⟨rfl, hb2⟩
    have hb3 := hb1.trans (hb2.mono hb1.size)
    clear hb2 x0 x1 x2 x3 x4 x5
    cases r with
    | false =>
      go_wp2_with fail
      go_ret
      exact ⟨rfl, hb3⟩
    | true =>
      go_wp2_with fail
      go_ret
      exact ⟨rfl, hb3⟩

end Go.Proofs.Ytifialdkjnmfoaa.pq
