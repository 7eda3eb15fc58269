/- slices.IndexFunc and slices.DeleteFunc at ints for any function value; impl.numbersWhere. -/
import Derived.Test.YtlpgldejmdiceaaSyl
import Derived.Test.YtlpgldejmdiceaaSyq
import Derived.Lib.LazyBuf
namespace Go.Proofs.Ytlpgldejmdiceaa.nwh
open kit bg sg opn strs only hb sig isig un over gn nm inn ht gd im pt marks eqs hc hi hw hn rs br bm bw cf lf ib isa lawb lw cl bgs cz syx sya syh syi syc syg syl has
open Go.RowKit
set_option linter.unusedVariables false
set_option linter.unusedSimpArgs false

/-- what IndexFunc gives: the first place, or -1 -/
def FoundI (P : Int → Bool) (xs : List Int) (w : World) (e : Ending) (w' : World) : Prop :=
  (∃ (k : Nat) (x : Int), e = .returned (.int .i64 k) ∧ xs[k]? = some x ∧ P x = true ∧ (∀ (j : Nat) y, j < k → xs[j]? = some y → P y = false) ∧ Below w.heap.size w w') ∨ (e = .returned (.int .i64 (-1)) ∧ (∀ (j : Nat) x, j < xs.length → xs[j]? = some x → P x = false) ∧ Below w.heap.size w w')
set_option maxRecDepth 20000 in
set_option maxHeartbeats 1600000 in
theorem idxI_any (G : FuncId) (lb : Array Value) (P : Int → Bool) (eg : ∀ args w, (callFunc G args).run Try.prog w = .ok (.enter G args) w) (Ax : Option Addr) (nx cx : Nat) (xs : List Int) (w0 w : World)
    (hG : ∀ (x : Int) (Y : World), x ∈ xs → Below w.heap.size w Y → Calls Try.prog G (#[.int .i64 x] ++ lb) Y (Post (P x) Y))
    (hx : IntsAt w0 w0.heap.size Ax nx xs) (hb0 : Below w0.heap.size w0 w) (hn : nx ≤ 1048576) :
    Calls Try.prog 90 #[.slice Ax nx cx, .func (.func G) #[] lb] w (FoundI P xs w) := by
  have HL := Lib.hid hx.len
  have HG := Lib.hid hG
  clear hG
  go_enter Try.func90, Try.ntmps90
  go_wp2_with fail
  go_loopw [5, 8] (fun _ i wr => ∃ k : Nat, k ≤ nx ∧ i = .int .i64 k ∧ (∀ (j : Nat) x, j < k → xs[j]? = some x → P x = false) ∧ Below w.heap.size w wr) (fun _ i _ => nx - (intOf i).toNat)
  case atStart => exact ⟨0, Nat.zero_le _, rfl, fun j x hj => absurd hj (Nat.not_lt_zero j), Below.refl _ _⟩
  case round =>
    obtain ⟨k, hk, rfl, hok, hbel⟩ := hrel
    have HOk := Lib.hid hok
    have HBel := Lib.hid hbel
    have hbw := hb0.trans (hbel.mono hb0.size)
    clear hok hbel
    by_cases hlt : k < nx
    · obtain ⟨bi, offi, x, rfl, hbi, hx, c0⟩ := IntsAt.get hx hlt
      have g0 := (hbw.cell (p := ⟨bi, offi + k, none⟩) hbi).trans c0
      have CK := HG.out x wr (List.mem_of_getElem? hx) HBel.out
      have HX := Lib.hid hx
      obtain ⟨q, hq⟩ : ∃ q, P x = q := ⟨_, rfl⟩
      have HQ := Lib.hid hq
      rw [hq] at CK
      clear hx hq c0
      cases q with
      | true =>
        go_wp2_with (go_at_fn G; refine CK.mono ?_; rintro e w3 ⟨rfl, hb3⟩; have HB3 := Lib.hid (HBel.out.trans (hb3.mono HBel.out.size)); clear CK hb3)
        go_wp2_with fail
        go_ret
        exact .inl ⟨k, x, rfl, HX.out, HQ.out, HOk.out, HB3.out⟩
      | false =>
        go_wp2_with (go_at_fn G; refine CK.mono ?_; rintro e w3 ⟨rfl, hb3⟩; have HB3 := Lib.hid (HBel.out.trans (hb3.mono HBel.out.size)); clear CK hb3)
        go_wp2_with fail
        go_roundw
        case rel => exact ⟨k + 1, by omega, by go_num, fun j' x' hj' hx' => by
          by_cases e : j' = k
          · subst e; rw [HX.out] at hx'; injection hx' with e; subst e; exact HQ.out
          · exact HOk.out j' x' (by omega) hx', HB3.out⟩
        case measure => simp [intOf]; omega
    · obtain rfl : k = nx := by omega
      go_wp2_with fail
      go_ret
      exact .inr ⟨rfl, by rw [HL.out]; exact HOk.out, HBel.out⟩

/-- the list without what P holds of -/
def keep (P : Int → Bool) (zs : List Int) : List Int := zs.filter (fun z => !P z)
theorem keep_out {P : Int → Bool} {zs : List Int} {j : Nat} {x : Int} (hx : zs[j]? = some x) (h : P x = true) : keep P (zs.take (j + 1)) = keep P (zs.take j) := by
  rw [List.take_add_one, hx]
  unfold keep
  rw [List.filter_append]
  simp [h]
theorem keep_in {P : Int → Bool} {zs : List Int} {j : Nat} {x : Int} (hx : zs[j]? = some x) (h : P x = false) : keep P (zs.take (j + 1)) = keep P (zs.take j) ++ [x] := by
  rw [List.take_add_one, hx]
  unfold keep
  rw [List.filter_append]
  simp [h]
theorem keep_all {P : Int → Bool} {zs : List Int} (h : ∀ (j : Nat) x, j < zs.length → zs[j]? = some x → P x = false) : keep P zs = zs := by
  unfold keep
  refine List.filter_eq_self.2 (fun x hx => ?_)
  obtain ⟨j, hj⟩ := List.getElem?_of_mem hx
  rw [h j x (List.getElem?_eq_some_iff.1 hj).1 hj]; rfl
theorem keep_take {P : Int → Bool} {zs : List Int} {k : Nat} (hk : k ≤ zs.length) (h : ∀ (j : Nat) x, j < k → zs[j]? = some x → P x = false) : keep P (zs.take k) = zs.take k := by
  refine keep_all (fun j x hj hx => ?_)
  rw [List.length_take] at hj
  rw [List.getElem?_take_of_lt (by omega)] at hx
  exact h j x (by omega) hx
theorem zero_int (w : World) : (zeroValue 3).run Try.prog w = .ok (.int .i64 0) w := by kernel_rfl
set_option maxRecDepth 20000 in
set_option maxHeartbeats 3200000 in
theorem delI_any (G : FuncId) (lb : Array Value) (P : Int → Bool) (eg : ∀ args w, (callFunc G args).run Try.prog w = .ok (.enter G args) w) (g n : Nat) (zs : List Int) (lo : Nat) (w : World)
    (hG : ∀ (x : Int) (Y : World), x ∈ zs → Below lo w Y → Calls Try.prog G (#[.int .i64 x] ++ lb) Y (Post (P x) Y))
    (hrow : w.rowIs g 3 n (iat zs)) (hl : zs.length = n) (hn : n ≤ 1048576) (hlo : lo ≤ g) :
    Calls Try.prog 124 #[.slice (some ⟨g, 0, none⟩) n n, .func (.func G) #[] lb] w fun e w' => ∃ f, e = .returned (.slice (some ⟨g, 0, none⟩) (keep P zs).length n) ∧ w'.rowIs g 3 n f ∧ (∀ x, x < (keep P zs).length → f x = iat (keep P zs) x) ∧ (keep P zs).length ≤ n ∧ Below lo w w' := by
  have hlw : lo ≤ w.heap.size := Nat.le_trans hlo (Nat.le_of_lt hrow.lt)
  have hkn : (keep P zs).length ≤ n := by rw [← hl]; exact List.length_filter_le _ _
  have HKn := Lib.hid hkn
  have CI := idxI_any G lb P eg (some ⟨g, 0, none⟩) n n zs w w (fun x Y hx hY => hG x Y hx (hY.mono hlw)) (syq.ints_row hl hrow) (Below.refl _ _) hn
  have HRow0 := Lib.hid hrow
  have HL := Lib.hid hl
  have HG := Lib.hid hG
  clear hG hrow hkn
  go_enter Try.func124, Try.ntmps124
  go_wp2_with fail
  refine CI.mono ?_
  rintro e w1 (⟨k0, x0, rfl, hk0, hp0, hmin, hb1⟩ | ⟨rfl, hall, hb1⟩)
  · have hkl := (List.getElem?_eq_some_iff.1 hk0).1
    have hkn : k0 < n := by omega
    have hneg : ((k0 : Int) == -1) = false := by rw [beq_eq_false_iff_ne]; omega
    have hst : keep P (zs.take k0) = zs.take k0 := keep_take (by omega) hmin
    have HSt := Lib.hid (show keep P (zs.take (k0 + 1)) = zs.take k0 from (keep_out hk0 hp0).trans hst)
    have hlk : (zs.take k0).length = k0 := by rw [List.length_take]; omega
    have HM : Hid ((keep P (zs.take (k0 + 1))).length = k0) := Lib.hid (by rw [HSt.out, hlk])
    have HRow := Lib.hid (HRow0.out.of_block (hb1.block g HRow0.out.lt))
    have HB1 := Lib.hid (hb1.mono hlw)
    clear CI hk0 hp0 hmin hst hlk hb1
    go_wp2_with fail
    go_loopw [5, 6] (fun vi vj wr => ∃ (j m : Nat) (f' : Nat → Value), j ≤ n ∧ vj = .int .i64 j ∧ vi = .int .i64 m ∧ m = (keep P (zs.take j)).length ∧ m < j ∧ wr.rowIs g 3 n f' ∧ (∀ x, x < m → f' x = iat (keep P (zs.take j)) x) ∧ (∀ x, j ≤ x → x < n → f' x = iat zs x) ∧ Below lo w wr) (fun _ vj _ => n - (intOf vj).toNat)
    case atStart =>
      refine ⟨k0 + 1, k0, iat zs, by omega, by go_num, rfl, HM.out.symm, by omega, HRow.out, fun x hx => ?_, fun x _ hx => rfl, HB1.out⟩
      rw [HSt.out]
      have e : zs[x]? = some (zs[x]'(by omega)) := List.getElem?_eq_getElem _
      rw [iat_of e, iat_of (by rw [List.getElem?_take_of_lt hx]; exact e)]
    case round =>
      obtain ⟨j, m, f', hj, rfl, rfl, hm, hmj, hr, hk1, hk2, hbel⟩ := hrel
      by_cases hlt : j < n
      · obtain ⟨x, hx⟩ : ∃ x, zs[j]? = some x := ⟨_, List.getElem?_eq_getElem (show j < zs.length by omega)⟩
        have hcj := hr.cell (show j < n by omega)
        rw [hk2 j (Nat.le_refl _) hlt, iat_of hx] at hcj
        have CU := HG.out x wr (List.mem_of_getElem? hx) hbel
        obtain ⟨q, hq⟩ : ∃ q, P x = q := ⟨_, rfl⟩
        rw [hq] at CU
        have HRr := Lib.hid hr
        have HK1 := Lib.hid hk1
        have HK2 := Lib.hid hk2
        have HB := Lib.hid hbel
        have HMm := Lib.hid hm
        cases q with
        | true =>
          have HT := Lib.hid (keep_out hx hq)
          clear hx hr hk1 hk2 hbel hm hq
          go_wp2_with (go_at_fn G; refine CU.mono ?_; rintro e w3 ⟨rfl, hb3⟩; have HB3 := Lib.hid (HB.out.trans (hb3.mono (Nat.le_trans hlw HB.out.size))); have HR3 := Lib.hid (HRr.out.of_block (hb3.block g HRr.out.lt)); clear CU hb3)
          go_wp2_with fail
          go_roundw
          case rel => exact ⟨j + 1, m, f', by omega, by go_num, rfl, by rw [HT.out]; exact HMm.out, by omega, HR3.out, by rw [HT.out]; exact HK1.out, fun x h1 h2 => HK2.out x (by omega) h2, HB3.out⟩
          case measure => simp [intOf]; omega
        | false =>
          have HT := Lib.hid (keep_in hx hq)
          clear hx hr hk1 hk2 hbel hm hq
          go_wp2_with (go_at_fn G; refine CU.mono ?_; rintro e w3 ⟨rfl, hb3⟩; have HB3 := Lib.hid (HB.out.trans (hb3.mono (Nat.le_trans hlw HB.out.size))); have HR3 := Lib.hid (HRr.out.of_block (hb3.block g HRr.out.lt)); clear CU hb3; have hcm := HR3.out.cell (show m < n by omega); have hfm := HR3.out.frozen m; obtain ⟨um, hum⟩ : ∃ um, f' m = um := ⟨_, rfl⟩; rw [hum] at hcm; clear hum)
          try go_wp2_with fail
          go_roundw
          case rel =>
            refine ⟨j + 1, m + 1, _, by omega, by go_num, by go_num, by rw [HT.out, List.length_append, ← HMm.out]; rfl, by omega, HR3.out.set m (.int .i64 x), fun y hy => ?_, fun y h1 h2 => ?_, HB3.out.setCell (p := ⟨g, m, none⟩) hlo _⟩
            · show (if y = m then _ else f' y) = _
              rw [HT.out]
              by_cases e : y = m
              · subst e
                rw [if_pos rfl, iat_of (by rw [List.getElem?_append_right (by rw [← HMm.out]; exact Nat.le_refl _), ← HMm.out, Nat.sub_self]; rfl)]
              · have hy2 : y < m := by omega
                rw [if_neg e, HK1.out y hy2]
                have e2 : (keep P (zs.take j))[y]? = some ((keep P (zs.take j))[y]'(by rw [← HMm.out]; exact hy2)) := List.getElem?_eq_getElem _
                rw [iat_of e2, iat_of (by rw [List.getElem?_append_left (by rw [← HMm.out]; exact hy2)]; exact e2)]
            · show (if y = m then _ else f' y) = _
              rw [if_neg (by omega), HK2.out y (by omega) h2]
          case measure => simp [intOf]; omega
      · obtain rfl : n = j := by omega
        have hcl : ∀ ty, (Builtin.clear_ #[38] ty #[.slice (some ⟨g, m, none⟩) (n - m) (n - m)]).run Try.prog wr = .ok (.tuple #[]) (wr.setCells g m (List.replicate (n - m) (.int .i64 0))) :=
          fun ty => Lib.run_clear_slice wr 38 3 ty (.int .i64 0) Try.underlying38 zero_int rfl rfl g m (n - m) (n - m) (by omega) (fun i hi => by rw [hr.cell (show m + i < n by omega)]; rfl) (fun i hi => hr.frozen (m + i))
        rw [List.take_of_length_le (by omega)] at hm hk1
        have HMm := Lib.hid hm
        have HK1 := Lib.hid hk1
        have HRr := Lib.hid (rowIs_setCells (List.replicate (n - m) (.int .i64 0)) m wr f' hr)
        have HB := Lib.hid (below_setCells hlo (List.replicate (n - m) (.int .i64 0)) m wr hbel)
        clear hr hk1 hk2 hbel hm
        go_wp2_with (simp only [hcl])
        go_ret
        refine ⟨_, by rw [← HMm.out]; rfl, HRr.out, ?_, HKn.out, HB.out⟩
        intro x hx
        rw [← HMm.out] at hx
        show (if m ≤ x ∧ _ then _ else f' x) = _
        rw [if_neg (by omega), HK1.out x (by omega)]
  · have hka := keep_all hall
    have HA := Lib.hid hka
    have HR := Lib.hid (HRow0.out.of_block (hb1.block g HRow0.out.lt))
    have HB1 := Lib.hid (hb1.mono hlw)
    clear CI hall hb1 hka
    go_wp2_with fail
    go_ret
    exact ⟨iat zs, by rw [HA.out, HL.out]; rfl, HR.out, by rw [HA.out]; exact fun _ _ => rfl, HKn.out, HB1.out⟩

set_option maxHeartbeats 800000 in
theorem nwc_any (G : FuncId) (lb : Array Value) (b : Bool) (eg : ∀ args w, (callFunc G args).run Try.prog w = .ok (.enter G args) w) (β : Nat) (x : Int) (w : World) (hβ : w.cell? ⟨β, 0, none⟩ = some (.func (.func G) #[] lb))
    (hG : Calls Try.prog G (#[.int .i64 x] ++ lb) w (Post b w)) :
    Calls Try.prog 125 #[.int .i64 x, .pointer (some ⟨β, 0, none⟩)] w (Post (!b) w) := by
  have HG := Lib.hid hG
  clear hG
  go_enter Try.func125, Try.ntmps125
  go_wp2_with (go_at_fn G; refine HG.out.mono ?_; rintro e w3 ⟨rfl, hb3⟩; have HB3 := Lib.hid hb3; clear hb3)
  try go_wp2_with fail
  go_ret
  exact ⟨rfl, HB3.out⟩

set_option maxRecDepth 20000 in
set_option maxHeartbeats 1600000 in
theorem nwh_any (G : FuncId) (lb : Array Value) (P : Int → Bool) (eg : ∀ args w, (callFunc G args).run Try.prog w = .ok (.enter G args) w) (n : Nat) (w : World) (hn : n ≤ 1048576)
    (hG : ∀ (x : Int) (Y : World), x ∈ nums n → Below w.heap.size w Y → Calls Try.prog G (#[.int .i64 x] ++ lb) Y (Post (P x) Y)) :
    Calls Try.prog 88 #[.int .i64 (n : Int), .func (.func G) #[] lb] w fun e w' => ∃ v, e = .returned v ∧ Res w' w.heap.size w'.heap.size 3 v (((nums n).filter P).map (Value.int .i64)) ∧ Below w.heap.size w w' := by
  have HB0 := Lib.hid ((Below.refl w.heap.size w).alloc (Nat.le_refl _) (.cells #[.func (.func G) #[] lb] 95))
  have HBx := Lib.hid (BoxN.new w #[.func (.func G) #[] lb] 95)
  obtain ⟨W, hW⟩ : ∃ W, w.alloc (.cells #[.func (.func G) #[] lb] 95) = W := ⟨_, rfl⟩
  rw [hW] at HBx HB0
  have HWq := Lib.hid hW
  have hWs := HBx.out.lt
  have HG := Lib.hid hG
  clear hW hG
  go_enter Try.func88, Try.ntmps88
  go_wp2_with fail
  rw [HWq.out]
  try go_wp2_with fail
  refine (below_any n W hn).mono ?_
  rintro e w1 ⟨g, rfl, hg1, hg2, hrow, hb1⟩
  have HB1 := Lib.hid hb1
  have HD := Lib.hid (delI_any 125 #[.pointer (some ⟨w.heap.size, 0, none⟩)] (fun z => !P z) (fun _ _ => by rfl) g n (nums n) W.heap.size w1 (fun x Y hx hY => nwc_any G lb (P x) eg w.heap.size x Y ((HBx.out.below (HB1.out.trans hY) hWs).cell (i := 0) rfl) (HG.out x Y hx (HB0.out.trans ((HB1.out.trans hY).mono HB0.out.size)))) hrow (nums_len n) hn hg1)
  have HGl := Lib.hid hg1
  clear hrow hb1 hg1 hg2
  go_wp2_with fail
  refine HD.out.mono ?_
  rintro e w2 ⟨f, rfl, hr, hf, hk, hb2⟩
  have hkeq : keep (fun z => !P z) (nums n) = (nums n).filter P := by unfold keep; simp
  rw [hkeq] at hf hk ⊢
  have HB2 := Lib.hid (HB0.out.trans ((HB1.out.trans hb2).mono HB0.out.size))
  have HR : Hid (Res w2 w.heap.size w2.heap.size 3 (.slice (some ⟨g, 0, none⟩) ((nums n).filter P).length n) (((nums n).filter P).map (Value.int .i64))) := Lib.hid (by
    refine ⟨some ⟨g, 0, none⟩, n, by rw [List.length_map], ?_, .inr ⟨g, f, rfl, Nat.le_trans (Nat.le_of_lt hWs) HGl.out, hr.lt, by rw [List.length_map]; exact hk, hr⟩⟩
    rw [List.length_map]
    refine SR.of_row2 hr hk hr.lt (fun k u hu => ?_) (by rw [List.length_map])
    rw [List.getElem?_map] at hu
    obtain ⟨z, hz, rfl⟩ := Option.map_eq_some_iff.1 hu
    have hkl := (List.getElem?_eq_some_iff.1 hz).1
    exact ⟨hkl, (hf k hkl).trans (iat_of hz)⟩)
  clear HD hr hf hk hb2 hkeq
  go_wp2_with fail
  go_ret
  exact ⟨_, rfl, HR.out, HB2.out⟩
end Go.Proofs.Ytlpgldejmdiceaa.nwh
