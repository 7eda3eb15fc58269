/- impl.reachedFrom: a list worked off, sorted. -/
import Derived.Test.YtlpgldejmdiceaaRcs
import Derived.Test.YtlpgldejmdiceaaSym
import Derived.Test.YtlpgldejmdiceaaSrn
import Derived.Sort.OwnSortedInts
import Derived.Deep.RegionHeld3
namespace Go.Proofs.Ytlpgldejmdiceaa.rci
open kit bg sg opn strs only hb sig isig un over gn nm inn ht gd im pt marks eqs hc hi hw hn rs br bm bw cf lf ib isa lawb lw cl bgs cz has syx sya rea syh syi syc syg syl syt sym syr rcs
open Go.RowKit
set_option linter.unusedVariables false
set_option linter.unusedSimpArgs false
theorem tri_low {w : World} {B B' n g off : Nat} {ts : List Tri} (h : TriAt w B (some ⟨g, off, none⟩) n ts) (hg : 0 < n → g < B') : TriAt w B' (some ⟨g, off, none⟩) n ts := by
  refine ⟨h.1, fun hp => ?_⟩
  obtain ⟨b, o, e, hb, hc⟩ := h.2 hp
  injection e with e
  injection e with e1 e2 _
  subst e1 e2
  exact ⟨g, off, rfl, hg hp, hc⟩
theorem tri_blk {w : World} {B n g off : Nat} {ts : List Tri} (h : TriAt w B (some ⟨g, off, none⟩) n ts) (hp : 0 < n) : g < B := by
  obtain ⟨b, o, e, hb, hc⟩ := h.2 hp
  injection e with e
  injection e with e1 _ _
  subst e1
  exact hb
/-- all steps of the states before k lead into the list -/
def Done (ts : List Tri) (Z : List Int) (k : Nat) : Prop := ∀ (i : Nat) a, i < k → Z[i]? = some a → ∀ t ∈ ts, t.1 = a → t.2.2 ∈ Z
theorem done_cls {ts : List Tri} {Z : List Int} (h : Done ts Z Z.length) : Cls ts Z := fun t ht hm => by
  obtain ⟨i, hi⟩ := List.getElem?_of_mem hm
  exact h i t.1 (List.getElem?_eq_some_iff.1 hi).1 hi t ht rfl
theorem done_app {ts : List Tri} {Z E : List Int} {k : Nat} (hk : k ≤ Z.length) (h : Done ts Z k) : Done ts (Z ++ E) k := fun i a hi ha t ht e => by
  rw [List.getElem?_append_left (by omega)] at ha
  exact List.mem_append_left _ (h i a hi ha t ht e)
theorem done_next {ts : List Tri} {Z E : List Int} {k : Nat} {a : Int} (hk : Z[k]? = some a) (h : Done ts Z k) (hall : ∀ t ∈ outOf ts a, t.2.2 ∈ Z ++ E) : Done ts (Z ++ E) (k + 1) := fun i b hi hb t ht e => by
  have hkl := (List.getElem?_eq_some_iff.1 hk).1
  by_cases hik : i = k
  · subst hik
    rw [List.getElem?_append_left hkl, hk] at hb
    injection hb with hb
    subst hb
    exact hall t (List.mem_filter.2 ⟨ht, decide_eq_true e⟩)
  · exact done_app (Nat.le_of_lt hkl) h i b (by omega) hb t ht e
set_option maxRecDepth 20000 in
set_option maxHeartbeats 6400000 in
theorem ireach_any (A1 : Option Addr) (g2 n1 c1 n2 : Nat) (ts : List Tri) (z : Int) (w : World) (h : TriAt w w.heap.size (some ⟨g2, 0, none⟩) n2 ts) (hn1 : n1 ≤ 1048575) (hn2 : n2 ≤ 1048576) (hp : ts.Pairwise (fun a b => a.1 ≤ b.1)) (hz : 0 ≤ z ∧ z < (n1 : Int)) (ht : ∀ t ∈ ts, 0 ≤ t.2.2 ∧ t.2.2 < (n1 : Int)) :
    Calls Try.prog 76 #[.agg #[.slice A1 n1 c1, .slice (some ⟨g2, 0, none⟩) n2 n2], .int .i64 z] w fun e w' => ∃ v, e = .returned v ∧ Owns w' w.heap.size 3 v ((rcL n1 ts z).map (Value.int .i64)) ∧ Below w.heap.size w w' := by
  have HL := Lib.hid h.1
  have HB0 := Lib.hid ((Below.refl w.heap.size w).alloc (Nat.le_refl _) (.cells #[.slice A1 n1 c1, .slice (some ⟨g2, 0, none⟩) n2 n2] 32))
  have HBx := Lib.hid (BoxN.new w #[.slice A1 n1 c1, .slice (some ⟨g2, 0, none⟩) n2 n2] 32)
  obtain ⟨W, hW⟩ : ∃ W, w.alloc (.cells #[.slice A1 n1 c1, .slice (some ⟨g2, 0, none⟩) n2 n2] 32) = W := ⟨_, rfl⟩
  rw [hW] at HBx HB0
  have HWq := Lib.hid hW
  have hWs := HBx.out.lt
  have hsz1 : W.heap.size = w.heap.size + 1 := by rw [← HWq.out]; simp
  have hOn : Owns (W.alloc (.cells #[.int .i64 z] 3)) W.heap.size 3 (.slice (some ⟨w.heap.size + 1, 0, none⟩) 1 1) ([z].map (Value.int .i64)) := by rw [← hsz1]; exact own_one W z
  have hb2 := (Below.refl W.heap.size W).alloc (Nat.le_refl _) (.cells #[.int .i64 z] 3)
  obtain ⟨W2, hW2⟩ : ∃ W2, W.alloc (.cells #[.int .i64 z] 3) = W2 := ⟨_, rfl⟩
  rw [hW2] at hOn hb2
  have HOn := Lib.hid hOn
  have HB2 := Lib.hid hb2
  have HW2 := Lib.hid hW2
  have HT := Lib.hid ((h.below HB0.out).wide HB0.out.size)
  have HIn := Lib.hid (fun a (ha : Rch ts z a) => rch_in hz ht ha)
  have HRc := Lib.hid (fun (Z S : List Int) => rcL_of (n := n1) (ts := ts) (z := z) (Z := Z) (S := S) hz ht)
  have HP := Lib.hid hp
  obtain ⟨i0, hi, hz0, hz1, hz2⟩ := info_parts int_info
  have HI := Lib.hid (And.intro hi (And.intro hz0 (And.intro hz1 hz2)))
  clear hW hW2 hOn hb2 h hz ht hp hi hz0 hz1 hz2
  go_enter Try.func76, Try.ntmps76
  go_wp2_with fail
  rw [HWq.out]
  try go_wp2_with fail
  rw [HW2.out]
  try go_wp2_with fail
  go_loopw [5, 6] (fun v i wr => ∃ (k : Nat) (Z : List Int), k ≤ Z.length ∧ i = .int .i64 k ∧ Owns wr W.heap.size 3 v (Z.map (Value.int .i64)) ∧ Below W.heap.size W wr ∧ Z.Nodup ∧ z ∈ Z ∧ (∀ a ∈ Z, Rch ts z a) ∧ Done ts Z k) (fun _ i _ => n1 - (intOf i).toNat)
  case atStart => exact ⟨0, [z], Nat.zero_le _, rfl, HOn.out, HB2.out, by simp, by simp, fun a ha => by rw [List.mem_singleton.1 ha]; exact .here, fun i a hi => absurd hi (Nat.not_lt_zero i)⟩
  case round =>
    obtain ⟨k, Z, hk, rfl, hown, hbel, hnd, hzm, hrc, hdn⟩ := hrel
    have HO := Lib.hid hown
    have HBl := Lib.hid hbel
    have HZ := Lib.hid (And.intro hnd (And.intro hzm (And.intro hrc hdn)))
    have hZl : Z.length ≤ n1 := nd_len hnd (fun a ha => HIn.out a (hrc a ha))
    obtain ⟨x0, x1⟩ := box2 (HBx.out.below hbel hWs)
    have hwz : W.heap.size ≤ wr.heap.size := hbel.size
    obtain ⟨g, cp, rfl, hg1, hg2, hmc, hsr⟩ := hown.at
    rw [List.length_map] at hmc hsr HO ⊢
    clear hbel hnd hzm hrc hdn hown
    by_cases hlt : k < Z.length
    · obtain ⟨b, off, a, eA, hbb, hx, e0⟩ := IntsAt.get hsr hlt
      injection eA with eA
      injection eA with e1 e2
      subst e1 e2
      rw [Nat.zero_add] at e0
      have HX := Lib.hid hx
      have hab := HIn.out a (HZ.out.2.2.1 a (List.mem_of_getElem? hx))
      have hlow : TriAt wr W.heap.size (some ⟨g2, 0, none⟩) n2 ts := HT.out.below HBl.out
      have HLow := Lib.hid hlow
      have HBD := Lib.hid (HBl.out.trans ((Below.refl wr.heap.size wr).drew.mono hwz))
      have CS := sfrom_any A1 g2 n1 c1 n2 ts a wr.drew ((HT.out.below HBD.out).wide HBD.out.size) hn2 HP.out (by omega)
      clear hx hlow
      go_wp2_with fail
      have hE0 := (Below.refl wr.heap.size wr).drew
      go_region_held3 (fun w' => (w'.cell? ⟨w.heap.size, 0, none⟩ = some (.slice A1 n1 c1) ∧ w'.cell? ⟨w.heap.size, 1, none⟩ = some (.slice (some ⟨g2, 0, none⟩) n2 n2)) ∧ w'.cell? ⟨g, k, none⟩ = some (.int .i64 a)) (first | exact ⟨box2 (HBx.out.below HB3.out hWs), (hb3.cell (p := ⟨g, k, none⟩) hbb).trans e0⟩ | exact ⟨box2 (HBx.out.below HBD.out hWs), (hE0.cell (p := ⟨g, k, none⟩) hbb).trans e0⟩)
        (first
         | (go_at_call 71; refine CS.mono ?_; rintro e w3 ⟨off3, c3, rfl, ht3, hb3⟩; have HB3 := Lib.hid (HBD.out.trans (hb3.mono HBD.out.size))))
      have ho3 := own_keep HO.out (hE0.trans (hb3.mono hE0.size))
      have hg2l : 0 < (outOf ts a).length → g2 < W.heap.size := fun hp => tri_blk HLow.out (by have := out_len ts a; have := HL.out; omega)
      have HT3 := Lib.hid (tri_low ht3 hg2l)
      have HO3 := Lib.hid ho3
      have hol : (outOf ts a).length ≤ 1048576 := by have := out_len ts a; have := HL.out; omega
      obtain ⟨R, hR⟩ : ∃ R, (outOf ts a).length = R := ⟨_, rfl⟩
      have HRl := Lib.hid hR
      rw [hR] at HT3 hol ⊢
      clear hR ht3 hb3 ho3 CS e0 x0 x1 hg2l hE0
      go_wp2_with fail
      go_loopw [5, 8, 24] (fun v _ i wr => ∃ (j : Nat) (E : List Int), j ≤ R ∧ i = .int .i64 j ∧ Owns wr W.heap.size 3 v ((Z ++ E).map (Value.int .i64)) ∧ Below W.heap.size w3 wr ∧ (Z ++ E).Nodup ∧ (∀ a ∈ Z ++ E, Rch ts z a) ∧ (∀ (q : Nat) t, q < j → (outOf ts a)[q]? = some t → t.2.2 ∈ Z ++ E)) (fun _ _ i _ => R - (intOf i).toNat)
      case atStart => exact ⟨0, [], Nat.zero_le _, rfl, by rw [List.append_nil]; exact HO3.out, Below.refl _ _, by rw [List.append_nil]; exact HZ.out.1, by rw [List.append_nil]; exact HZ.out.2.2.1, fun q t hq => absurd hq (Nat.not_lt_zero q)⟩
      case round =>
        obtain ⟨j, E, hj, rfl, hown, hbel, hnd, hrc, hall⟩ := hrel
        have HOi := Lib.hid hown
        have HBi := Lib.hid (HB3.out.trans (hbel.mono (Nat.le_refl _)))
        have HBe := Lib.hid hbel
        have HZi := Lib.hid (And.intro hnd (And.intro hrc hall))
        have hZl2 : (Z ++ E).length ≤ n1 := nd_len hnd (fun a ha => HIn.out a (hrc a ha))
        have hwz2 : W.heap.size ≤ wr.heap.size := HBi.out.size
        by_cases hlt2 : j < R
        · obtain ⟨b, off, t, eB, hbb2, hx, e0, e1, e2⟩ := HT3.out.get hlt2
          injection eB with eB
          injection eB with eb eo
          subst eb eo
          have d0 := (hbel.cell (p := ⟨g2, off3 + j * 3, none⟩) hbb2).trans e0
          have d1 := (hbel.cell (p := ⟨g2, off3 + j * 3 + 1, none⟩) hbb2).trans e1
          have d2 := (hbel.cell (p := ⟨g2, off3 + j * 3 + 2, none⟩) hbb2).trans e2
          obtain ⟨P, hP⟩ : ∃ P, Z ++ E = P := ⟨_, rfl⟩
          have HX2 := Lib.hid hx
          have HPe := Lib.hid hP
          rw [hP] at HOi HZi hZl2
          clear hown hbel hnd hrc hall hx e0 e1 e2 hP
          have hcc := HOi.out.at
          obtain ⟨g', cp', rfl, hg1', hg2', hmc', hsr'⟩ := hcc
          rw [List.length_map] at hmc' hsr' HOi ⊢
          have b3 := BoxN.new wr #[.int .i64 t.1, .int .i64 t.2.1, .int .i64 t.2.2] 76
          have hb3 := (Below.refl wr.heap.size wr).alloc (Nat.le_refl _) (.cells #[.int .i64 t.1, .int .i64 t.2.1, .int .i64 t.2.2] 76)
          obtain ⟨z0, z1, z2⟩ := box3 b3
          obtain ⟨W3, hW3⟩ : ∃ W3, wr.alloc (.cells #[.int .i64 t.1, .int .i64 t.2.1, .int .i64 t.2.2] 76) = W3 := ⟨_, rfl⟩
          rw [hW3] at hb3 z0 z1 z2
          have HW3 := Lib.hid hW3
          have HB33 := Lib.hid (HBe.out.trans (hb3.mono hwz2))
          have HO33 := Lib.hid (own_keep HOi.out hb3)
          have hw33 : W.heap.size ≤ W3.heap.size := Nat.le_trans hwz2 hb3.size
          have CC := contains_any (some ⟨g', 0, none⟩) P.length cp' P t.2.2 W3 _ (IntsAt.below hsr' hb3) (by omega)
          have HTm : Hid (t.2.2 ∈ P → ∀ (q : Nat) u, q < j + 1 → (outOf ts a)[q]? = some u → u.2.2 ∈ P) := Lib.hid (fun hm q u hq hu => by
            by_cases e : q = j
            · subst e; rw [HX2.out] at hu; injection hu with hu; subst hu; exact hm
            · exact HZi.out.2.2 q u (by omega) hu)
          clear hW3 b3 hb3 hsr'
          cases hq : hasB P t.2.2 with
          | true =>
            rw [hq] at CC
            have HM := Lib.hid (HTm.out (of_decide_eq_true hq))
            clear hq
            go_wp2_with fail
            rw [HW3.out]
            try go_wp2_with fail
            refine CC.mono ?_
            rintro e w4 ⟨rfl, rfl⟩
            clear CC
            go_wp2_with fail
            go_roundw
            case rel => exact ⟨j + 1, E, by omega, by go_num, by rw [HPe.out]; exact HO33.out, HB33.out, by rw [HPe.out]; exact HZi.out.1, by rw [HPe.out]; exact HZi.out.2.1, by rw [HPe.out]; exact HM.out⟩
            case measure => simp [intOf]; omega
          | false =>
            rw [hq] at CC
            have hnm : ¬ t.2.2 ∈ P := of_decide_eq_false hq
            have htm : t ∈ outOf ts a := List.mem_of_getElem? HX2.out
            have htf := List.mem_filter.1 htm
            have hra : Rch ts z t.1 := by rw [of_decide_eq_true htf.2]; exact HZ.out.2.2.1 a (List.mem_of_getElem? HX.out)
            have HR2 : Hid (Rch ts z t.2.2) := Lib.hid (.next hra htf.1)
            have HNd : Hid ((P ++ [t.2.2]).Nodup) := Lib.hid (List.nodup_append.2 ⟨HZi.out.1, by simp, fun x hx y hy e => hnm (by rw [List.mem_singleton.1 hy] at e; rw [← e]; exact hx)⟩)
            have HAll : Hid (∀ (q : Nat) u, q < j + 1 → (outOf ts a)[q]? = some u → u.2.2 ∈ P ++ [t.2.2]) := Lib.hid (fun q u hq hu => by
              by_cases e : q = j
              · subst e; rw [HX2.out] at hu; injection hu with hu; subst hu; simp
              · exact List.mem_append_left _ (HZi.out.2.2 q u (by omega) hu))
            have HRa : Hid (∀ x ∈ P ++ [t.2.2], Rch ts z x) := Lib.hid (fun x hx => by
              rcases List.mem_append.1 hx with hx | hx
              · exact HZi.out.2.1 x hx
              · rw [List.mem_singleton.1 hx]; exact HR2.out)
            have HEq : Hid (Z ++ (E ++ [t.2.2]) = P ++ [t.2.2]) := Lib.hid (by rw [← HPe.out, List.append_assoc])
            obtain ⟨D, hD⟩ : ∃ D, P.map (Value.int .i64) = D := ⟨_, rfl⟩
            obtain ⟨hown, hnn⟩ := HO33.out
            have HN := Lib.hid hnn
            rw [hD] at hown
            obtain ⟨q, hq2⟩ : ∃ q, P.length = q := ⟨_, rfl⟩
            have hDq : D.length = q := by rw [← hD, List.length_map, hq2]
            rw [hDq] at hown
            rw [hq2] at CC hZl2 HN hown ⊢
            have HOq := Lib.hid hown
            have HD := Lib.hid hD
            have HQq := Lib.hid hq2
            have hq3 : q ≤ 1048576 := by omega
            have hlt0 := hown.lt
            clear hq hnm htm htf hra hD hq2 hDq hown hnn
            go_wp2_with fail
            rw [HW3.out]
            try go_wp2_with fail
            refine CC.mono ?_
            rintro e w4 ⟨rfl, rfl⟩
            clear CC
            go_wp2_with (at_builtin; refine wpList_append_own _ rfl _ _ 38 rfl W.heap.size 3 i0 (.int .i64 0) 1 8 Try.underlying38 HI.out.1 HI.out.2.1 HI.out.2.2.1 HI.out.2.2.2 rfl (by decide) _ _ _ rfl (HOq.out.alloc _) ⟨W3.heap.size, 0, none⟩ 1 1 [.int .i64 t.2.2] rfl rfl (cell_one_new _ _ _) (fun u hu => by rw [List.mem_singleton.1 hu]; rfl) (by unfold maxLen; omega) (by omega) (by simp; omega) ?_; intro v1 w6 hown1 hgrow1 hnil1)
            have HB6 := Lib.hid ((HB33.out.alloc hw33 (.cells #[.int .i64 t.2.2] 3)).grown hgrow1 (by simp; omega) (fun j hj => (hlt0 j hj).1))
            have HOn1 := Lib.hid (own_push hown1 HD.out HQq.out (fun h => HN.out (hnil1.1 h).1))
            clear hown1 hgrow1 hnil1 hlt0
            go_wp2_with fail
            go_roundw
            case rel => exact ⟨j + 1, E ++ [t.2.2], by omega, by go_num, by rw [HEq.out]; exact HOn1.out, HB6.out, by rw [HEq.out]; exact HNd.out, by rw [HEq.out]; exact HRa.out, by rw [HEq.out]; exact HAll.out⟩
            case measure => simp [intOf]; omega
        · obtain rfl : R = j := by omega
          have HDn := Lib.hid (done_next HX.out HZ.out.2.2.2 (fun t ht => by
            obtain ⟨q, hq⟩ := List.getElem?_of_mem ht
            exact hall q t (by have := (List.getElem?_eq_some_iff.1 hq).1; have := HRl.out; omega) hq))
          have hkl : k + 1 ≤ (Z ++ E).length := by rw [List.length_append]; omega
          clear hown hbel hnd hrc hall
          go_wp2_with fail
          go_roundw
          case rel => exact ⟨k + 1, Z ++ E, hkl, by go_num, HOi.out, HBi.out, HZi.out.1, List.mem_append_left _ HZ.out.2.1, HZi.out.2.1, HDn.out⟩
          case measure => simp [intOf]; omega
    · obtain rfl : k = Z.length := by omega
      have hso := HRc.out Z (Z.mergeSort (fun x y => decide (x ≤ y))) HZ.out.2.1 HZ.out.2.2.1 (done_cls HZ.out.2.2.2) (sort_asc HZ.out.1) (fun u => sort_mem u)
      obtain ⟨ho1, ho2⟩ := HO.out
      rcases ho1.2 with ⟨e, -⟩ | ⟨g', cap, cur, eS, hbase, hgb, r1, r2, r3, r4⟩
      · exact absurd e ho2
      injection eS with eS _ eC
      injection eS with eS
      injection eS with eS _
      subst eS eC
      have hH : Go.Sort.Holds (Value.int .i64) wr g 0 Z.toArray := holds_of_blockI hgb (by simpa using r4)
      have HS := Lib.hid (Try.slices_Sort_int g 0 cp Z wr hH hg2 (by omega))
      have hle : (Z.mergeSort (fun x y => decide (x ≤ y))).length = Z.length := List.length_mergeSort ..
      have HOw := Lib.hid (fun (q : Nat) os => ownsRow_sortedI (w := wr) (n := q) (os := os) (ss := Z) (ts := Z.mergeSort (fun x y => decide (x ≤ y))) hle hbase hgb (by omega) r2 r3)
      have HBo := Lib.hid (fun (q : Nat) os => HBl.out.grown (grownBy_sortedI (w := wr) (g := g) (n := q) (os := os) (Z.mergeSort (fun x y => decide (x ≤ y))).toArray) hwz (fun j hj => by cases hj; exact hbase))
      obtain ⟨S, hS⟩ : ∃ S, Z.mergeSort (fun x y => decide (x ≤ y)) = S := ⟨_, rfl⟩
      rw [hS] at hso hle HOw HBo HS
      have HSo := Lib.hid hso
      have HLe := Lib.hid hle
      clear hso ho1 ho2 hgb r1 r2 r3 r4 hH hle hS hsr x0 x1 hk hlt hZl
      obtain ⟨m, hm⟩ : ∃ m, Z.length = m := ⟨_, rfl⟩
      rw [hm] at HS HOw HLe hmc ⊢
      clear hm
      go_wp2_with fail
      refine HS.out.mono ?_
      rintro e w5 ⟨rfl, q, os, rfl⟩
      have ho5 := HOw.out q os
      have hb5 := HBo.out q os
      obtain ⟨w5, hw5⟩ : ∃ w5, Go.Sort.grow (Go.Sort.putRow (Value.int .i64) (Go.Sort.ahead wr q) g 0 S.toArray) os = w5 := ⟨_, rfl⟩
      rw [hw5] at ho5 hb5 ⊢
      have HBz := Lib.hid (HB0.out.trans (hb5.mono HB0.out.size))
      have HOz : Hid (Owns w5 w.heap.size 3 (.slice (some ⟨g, 0, none⟩) m cp) ((rcL n1 ts z).map (Value.int .i64))) := Lib.hid (own_low ⟨by rw [← HSo.out, List.length_map, HLe.out]; exact ho5, by simp⟩ HB0.out.size)
      clear HS ho5 hb5 hw5
      go_wp2_with fail
      go_ret
      exact ⟨_, rfl, HOz.out, HBz.out⟩
end Go.Proofs.Ytlpgldejmdiceaa.rci
