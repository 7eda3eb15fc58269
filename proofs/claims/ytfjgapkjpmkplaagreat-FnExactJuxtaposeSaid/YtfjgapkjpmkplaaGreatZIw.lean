/- Iw. -/
import Derived.Test.YtfjgapkjpmkplaaGreatXa
import Derived.Test.YtfjgapkjpmkplaaGreatXc
import Derived.Test.YtfjgapkjpmkplaaGreatXd
import Derived.Test.YtfjgapkjpmkplaaGreatXe
import Derived.Test.YtfjgapkjpmkplaaGreatXg
import Derived.Test.YtfjgapkjpmkplaaGreatYa012
import Derived.Test.YtfjgapkjpmkplaaGreatZSo
import Derived.Test.YtfjgapkjpmkplaaGreatYc012
import Derived.Test.YtfjgapkjpmkplaaGreatRows
import Derived.WalkKit
import Derived.WalkSpells
import Derived.WalkLawsBesides
import Derived.ProofKit
import Derived.OpenShut
import Derived.ShutString
import Derived.Deep.OwnRows
import Derived.Deep.Draws
import Derived.SliceStrings
import Derived.ChangeOld
import Derived.Below
import Derived.Lib.Hide
import Derived.Lib.ItoaNum
import Derived.Deep.QuietTactic
import Derived.BigQuiet
import Derived.Outline
import Derived.StillTailTactics
import Derived.Deep.RegionWith
import Derived.Deep.RegionHeld3
import Derived.Deep.Slices
import Derived.Deep.Fields
import Derived.ChangeSame
import Derived.Lib.SmallJoins
import Derived.Maps.OwnOps
import Derived.Maps.OwnIn
import Derived.Maps.Views
import Derived.Maps.AppendAt
import Derived.RangeFuncBox
import Derived.RangeFuncLeaves
import Derived.Shelf.Abstract
import Derived.OwnWalkIn
import Derived.TacticsInMore
import Derived.LoopNIn
import Derived.LoopIn
import Derived.RangeFuncWrites
import Derived.RangeFuncNested
import Derived.JoinedOf
import Derived.Deep.AppendLies
import Derived.Deep.RegionLaw
import Derived.Laws.AppendOwnNone
import Derived.Lib.SliceRun
import Derived.Deep.Cut
import Derived.Deep.CutRange
import Derived.OrdersHeld
import Derived.StillTail
import Derived.Handy
import Derived.Lib.Walk
import Derived.Deep.LoopGhost
import Derived.Lib.LazyBuf
import Derived.Lib.AppendZerosOnto
import Derived.Sort.OwnSorted
import Derived.Lib.SlicesCompact
import Derived.Sort.KeysCollected
import Derived.Test.YtfjgapkjpmkplaaGreatSfl
import Derived.Shelf.SlSortCmp.NoneTotal
import Derived.WalkMore
import Derived.ScopeJumps
set_option linter.unusedSimpArgs false
set_option linter.unusedVariables false
namespace Go.Proofs.YtfjgapkjpmkplaaGreat.iw
open kit bg sg opn strs only hb sig isig un over gn nm inn ht gd im pt marks eqs hc hi hw hn rs br bm bw cf lf ib lw cl wb sa su rn tp sd
open so (go_two below_drewN wp_name)
open Go.RowKit
set_option linter.unusedVariables false
set_option linter.unusedSimpArgs false
section
set_option linter.unusedVariables false
theorem app_src {P : Program} (w : World) {ops : Array Oper} {rest : List Oper} {o : Oper} {a : Act} {Q : Exit → Act → World → Prop} (hgd : o.guard = none) (s x : Operand) (t : TypeId)
    (ho : o.op = .call { callee := .builtin .append, args := #[s, x], argTypes := #[t, t] })
    (base : Nat) (e : TypeId) (i : TypeInfo) (z : Value) (size bytes : Nat) (ht : P.underlying t = some (.slice e)) (hi : P.info? e = some i) (hz : i.zero = some z)
    (hsize : i.size = size) (hby : i.bytes = bytes) (hzs : z.cells.size = size) (hsz : 0 < size)
    (v : Value) (n : Nat) (xs : List Value) (hs : a.eval s = v) (hown : w.ownsRow base e size v n xs)
    (A : Option Addr) (m c : Nat) (news : List Value) (hx : a.eval x = .slice A m c) (hnil : A = none → m = 0 ∧ c = 0) (hl : news.length = m * size) (hnews : ∀ ad, A = some ad → ∀ j u, news[j]? = some u → w.cell? (ad.add j) = some u) (h1 : ∀ u ∈ news, u.oneCell' = true)
    (h63 : n + m ≤ maxLen) (hbytes : (n + m) * bytes ≤ 140737488355328) (hbase : base ≤ w.heap.size) (hv : v ≠ .slice none 0 0)
    (h : ∀ v' w', w'.ownsRow base e size v' (n + m) (xs ++ news) → w.grownBy w' v.ownBlock → v' ≠ .slice none 0 0 → wpList P ops Q rest (a.put o.dst v') w') : wpList P ops Q (o :: rest) a w := by
  cases A with
  | some ad => exact wpList_append_own w hgd s x t ho base e i z size bytes ht hi hz hsize hby hzs hsz v n xs hs hown ad m c news hx hl (hnews ad rfl) h1 h63 hbytes hbase (fun v' w' a b c => h v' w' a b (fun e => hv (c.1 e).1))
  | none =>
    obtain ⟨rfl, rfl⟩ := hnil rfl
    have hne : news = [] := List.eq_nil_of_length_eq_zero (by rw [hl]; omega)
    subst hne
    exact wpList_append_own_none hgd s x t ho base e i size ht hi v n xs hs hown hx (h v w (by simpa using hown) (World.grownBy.refl w _) hv)
end
def OwnsW (w : World) (B : Nat) (v : Value) (ws : List Wr) : Prop := w.ownsRow B 139 2 v ws.length (wcs ws) ∧ v ≠ .slice none 0 0
theorem OwnsW.at {w : World} {B : Nat} {v : Value} {ws : List Wr} (h : OwnsW w B v ws) : ∃ g cap, v = .slice (some ⟨g, 0, none⟩) ws.length cap ∧ B ≤ g ∧ g < w.heap.size ∧ ws.length ≤ cap ∧ WrsAt w w.heap.size (some ⟨g, 0, none⟩) ws.length ws := by
  obtain ⟨A, c, rfl, hr⟩ := wrs_owned h.1
  rcases hr with ⟨rfl, rfl, h0⟩ | ⟨g, f, rfl, h1, h2, h3, h4, h5⟩
  · exact absurd (by rw [h0]) h.2
  · refine ⟨g, c, rfl, h1, h2, h3, rfl, fun hn => ⟨g, 0, rfl, h4.lt, fun k y hk => ?_⟩⟩
    have hkl := (List.getElem?_eq_some_iff.1 hk).1
    have e := wic_at hk
    rw [Nat.zero_add]
    rw [← e.1, ← e.2, ← h5 _ (by omega), ← h5 _ (by omega)]
    exact ⟨h4.cell (by omega), h4.cell (by omega)⟩
theorem wcs_app (a b : List Wr) : wcs (a ++ b) = wcs a ++ wcs b := by unfold wcs; rw [List.flatMap_append]
theorem take_cells {w : World} {B m g j : Nat} {L : List Wr} (h : WrsAt w B (some ⟨g, 0, none⟩) m L) : ∀ (i : Nat) u, (wcs (L.take j))[i]? = some u → w.cell? ((⟨g, 0, none⟩ : Addr).add i) = some u := by
  intro i u hu
  refine wcs_cells h i u ?_
  have e : wcs L = wcs (L.take j) ++ wcs (L.drop j) := by rw [← wcs_app, List.take_append_drop]
  rw [e, List.getElem?_append_left (List.getElem?_eq_some_iff.1 hu).1]
  exact hu
theorem drop_cells {w : World} {B m g j o : Nat} {L : List Wr} (h : WrsAt w B (some ⟨g, 0, none⟩) m L) (ho : j < m → o = j * 2) : ∀ (i : Nat) u, (wcs (L.drop j))[i]? = some u → w.cell? ((⟨g, o, none⟩ : Addr).add i) = some u := by
  intro i u hu
  have hlen : L.length = m := h.1
  have hi := (List.getElem?_eq_some_iff.1 hu).1
  rw [wcs_len, List.length_drop] at hi
  have e := ho (by omega)
  subst e
  have e2 : wcs L = wcs (L.take j) ++ wcs (L.drop j) := by rw [← wcs_app, List.take_append_drop]
  have e3 : (wcs (L.take j)).length = j * 2 := by rw [wcs_len, List.length_take]; omega
  have hu2 : (wcs L)[j * 2 + i]? = some u := by
    rw [e2, List.getElem?_append_right (by omega), e3, Nat.add_sub_cancel_left]
    exact hu
  have := wcs_cells h (j * 2 + i) u hu2
  rw [cl.add_none] at this ⊢
  rwa [Nat.zero_add] at this
theorem one_two (x : Wr) : ∀ u ∈ [Value.string x.name, Value.int .i64 x.link], u.oneCell' = true := fun u hu => by
  simp at hu
  rcases hu with rfl | rfl <;> rfl
theorem two_keep {w w' : World} {β : Nat} {row : Option Nat} {x y : Value} (hc : ∀ (i : Nat) u, [x, y][i]? = some u → w.cell? ((⟨β, 0, none⟩ : Addr).add i) = some u) (hg : w.grownBy w' row) (hβ : β < w.heap.size) (hne : some β ≠ row) : ∀ (i : Nat) u, [x, y][i]? = some u → w'.cell? ((⟨β, 0, none⟩ : Addr).add i) = some u := by
  intro i u hu
  have := hc i u hu
  rw [cl.add_none] at this ⊢
  rw [World.cell?_of_block (w := w) (hg.block β hβ hne)]
  exact this
theorem owns_of {w : World} {B B' m j : Nat} {v : Value} {x : Wr} {L : List Wr} (h : w.ownsRow B' 139 2 v (0 + j + 1 + (m - j)) ([] ++ wcs (L.take j) ++ [.string x.name, .int .i64 x.link] ++ wcs (L.drop j))) (hB : B ≤ B') (hv : v ≠ .slice none 0 0) (hm : L.length = m) (hj : j ≤ m) : OwnsW w B v (L.take j ++ [x] ++ L.drop j) := by
  have e : [] ++ wcs (L.take j) ++ [Value.string x.name, Value.int .i64 x.link] ++ wcs (L.drop j) = wcs (L.take j ++ [x] ++ L.drop j) := by rw [wcs_app, wcs_snoc, List.nil_append]
  have e2 : 0 + j + 1 + (m - j) = (L.take j ++ [x] ++ L.drop j).length := by simp; omega
  rw [e, e2] at h
  refine ⟨?_, hv⟩
  rcases h with ⟨h1, ⟨e, h2⟩ | ⟨g, cap, cur, e, hg, hr⟩⟩
  · exact ⟨h1, .inl ⟨e, h2⟩⟩
  · exact ⟨h1, .inr ⟨g, cap, cur, e, by omega, hr⟩⟩
theorem insW_put {x : Wr} : ∀ (l : List Wr) (k : Nat), (∀ (j : Nat) y, j < k → l[j]? = some y → Op.bytesLess y.name.toList x.name.toList = true) → k ≤ l.length → (∀ y, l[k]? = some y → Op.bytesLess y.name.toList x.name.toList = false) → insW x l = l.take k ++ [x] ++ l.drop k
  | [], k, _, hk, _ => by
    obtain rfl : k = 0 := by simpa using hk
    rfl
  | y :: l, 0, _, _, hn => by
    have a := hn y rfl
    unfold insW
    rw [if_neg (by rw [a]; decide)]
    rfl
  | y :: l, k + 1, hlt, hk, hn => by
    have h0 := hlt 0 y (by omega) rfl
    unfold insW
    rw [if_pos h0, insW_put l k (fun j z hj hz => hlt (j + 1) z (by omega) (by simpa using hz)) (by simpa using hk) (fun z hz => hn z (by simpa using hz))]
    rfl
theorem innW_snoc (xs ys : List Wr) (x : Wr) : innW xs (ys ++ [x]) = insW x (innW xs ys) := by unfold innW; rw [List.foldl_append]; rfl
theorem innW_len (xs ys : List Wr) : (innW xs ys).length = xs.length + ys.length := by rw [(innW_perm xs ys).length_eq, List.length_append]
set_option maxRecDepth 20000 in
set_option maxHeartbeats 12800000 in
theorem inr_any (A B : Option Addr) (na ca n c : Nat) (xs ys : List Wr) (w : World) (ha : WrsAt w w.heap.size A na xs) (hna : A = none → ca = 0) (h : WrsAt w w.heap.size B n ys) (hxn : na ≤ 1000) (hn : n ≤ 1000) :
    Calls Tryz.prog 199 #[.slice A na ca, .slice B n c] w fun e w' => ∃ A' c', e = .returned (.slice A' (na + n) c') ∧ RowR w' w.heap.size w'.heap.size 139 2 A' (na + n) c' (wic (innW xs ys)) ∧ Below w.heap.size w w' := by
  obtain ⟨i0, hi, hz0, hz1, hz2⟩ := info_parts wire_info
  have HI := Lib.hid (And.intro hi (And.intro hz0 (And.intro hz1 hz2)))
  have HL : Hid (ys.length = n) := Lib.hid h.1
  have HX : Hid (xs.length = na) := Lib.hid ha.1
  have hown := ownsRow_nil_new w 139 2 w.heap.size (Nat.le_refl _)
  have hB := (Below.refl w.heap.size w).alloc (Nat.le_refl _) (.cells #[] 139)
  have HSrc := Lib.hid (wrs_src (ha.below hB))
  have HNil : Hid (A = none → na = 0 ∧ ca = 0) := Lib.hid (fun e => ⟨wrs_zero ha e, hna e⟩)
  have HOw := Lib.hid hown
  have HBe := Lib.hid hB
  clear hi hz0 hz1 hz2 ha hown hB
  go_enter Tryz.func199, Tryz.ntmps199
  go_wp2_with (at_builtin; refine app_src _ rfl _ _ 34 rfl w.heap.size 139 i0 (.agg #[.string ⟨#[]⟩, .int .i64 0]) 2 24 Tryz.underlying34 HI.out.1 HI.out.2.1 HI.out.2.2.1 HI.out.2.2.2 rfl (by decide) _ _ _ rfl HOw.out A na ca (wcs xs) rfl HNil.out (by rw [wcs_len, HX.out]) HSrc.out (wcs_one xs) (by unfold maxLen; omega) (by omega) (by simp) (by first | (simp [Act.eval]; done) | (intro e; cases e)) ?_; intro v0 w0 hown0 hgrow0 hnil0; have hb0 := HBe.out.grown hgrow0 (by simp) (fun r e => (HOw.out.lt r e).1); have HO0 : Hid (OwnsW w0 w.heap.size v0 (innW xs (ys.take 0))) := Lib.hid (by rw [Nat.zero_add, List.nil_append, ← HX.out] at hown0; exact ⟨hown0, hnil0⟩); clear hown0 hgrow0)
  go_wp2_with fail
  go_loopw [5, 6] (fun v i wr => ∃ k : Nat, k ≤ n ∧ i = .int .i64 k ∧ OwnsW wr w.heap.size v (innW xs (ys.take k)) ∧ Below w.heap.size w wr) (fun _ i _ => n - (intOf i).toNat)
  case atStart => exact ⟨0, Nat.zero_le _, rfl, HO0.out, hb0⟩
  case round =>
    obtain ⟨k, hk, rfl, hO, hB⟩ := hrel
    rename World => wr
    have hsz := hB.size
    by_cases hlt : k < n
    · obtain ⟨b, off, x, rfl, hbb, hx, hc0, hc1⟩ := h.get hlt
      have d0 := (hB.cell (p := ⟨b, off + k * 2, none⟩) hbb).trans hc0
      have d1 := (hB.cell (p := ⟨b, off + k * 2 + 1, none⟩) hbb).trans hc1
      have HT := Lib.hid (show innW xs (ys.take (k + 1)) = insW x (innW xs (ys.take k)) by rw [List.take_add_one, hx]; exact innW_snoc _ _ _)
      have hml : (innW xs (ys.take k)).length ≤ na + k := by rw [innW_len, HX.out]; have := List.length_take_le k ys; omega
      obtain ⟨L, hL⟩ : ∃ L, innW xs (ys.take k) = L := ⟨_, rfl⟩
      rw [hL] at hO HT hml
      obtain ⟨g, cp, rfl, hg1, hg2, hmc, hsr⟩ := hO.at
      obtain ⟨m, hm⟩ : ∃ m, L.length = m := ⟨_, rfl⟩
      rw [hm] at hmc hsr
      rw [hm] at hml
      have HM := Lib.hid hm
      have HO := Lib.hid hO
      have HB := Lib.hid hB
      have HSr := Lib.hid hsr
      clear hL hx hc0 hc1 hO hB hm hb0
      rw [HM.out]
      go_wp2_with fail
      go_loopw [7] (fun i wq => ∃ j : Nat, j ≤ m ∧ i = .int .i64 j ∧ (∀ (t : Nat) y, t < j → L[t]? = some y → Op.bytesLess y.name.toList x.name.toList = true) ∧ Below wr.heap.size wr wq) (fun i _ => m - (intOf i).toNat)
      case atStart => exact ⟨0, Nat.zero_le _, rfl, fun t y ht => absurd ht (by omega), Below.refl _ _⟩
      case round =>
        obtain ⟨j, hj, rfl, hall, hbq⟩ := hrel
        rename World => wq
        have HA := Lib.hid hall
        have HQ := Lib.hid hbq
        have hwq := hbq.size
        have d2 := (hbq.cell (p := ⟨b, off + k * 2, none⟩) (by dsimp only; omega)).trans d0
        clear hall hbq
        by_cases hjm : j < m
        · obtain ⟨g', off', y, e, hgg, hy, hcy, hcz⟩ := HSr.out.get hjm
          injection e with e
          injection e with e1 e2
          subst e1 e2
          rw [Nat.zero_add] at hcy
          have hcy := (HQ.out.cell (p := ⟨g, j * 2, none⟩) hgg).trans hcy
          have HY := Lib.hid hy
          clear hy hcz
          cases hlt2 : Op.bytesLess y.name.toList x.name.toList with
          | true =>
            have HN : Hid (∀ (t : Nat) z, t < j + 1 → L[t]? = some z → Op.bytesLess z.name.toList x.name.toList = true) := Lib.hid fun t z ht hz => by
              by_cases e : t = j
              · subst e
                rw [HY.out] at hz
                injection hz with hz
                subst hz
                exact hlt2
              · exact HA.out t z (by omega) hz
            go_wp2_with fail
            go_quiet (fail)
            go_wp2_with fail
            go_roundw
            case rel => exact ⟨j + 1, by omega, by go_num, HN.out, below_drewN HQ.out _⟩
            case measure => simp [intOf]; omega
          | false =>
            have HIn := Lib.hid (HT.out.trans (insW_put L j HA.out (by have := HM.out; omega) (fun z hz => by rw [HY.out] at hz; injection hz with hz; subst hz; exact hlt2)))
            go_wp2_with fail
            go_quiet (fail)
            clear hlt2 hcy
            go_wp2_with fail
            refine wp_name (fun W hW => ?_)
            have hBW : Below wr.heap.size wr W := by rw [hW]; exact below_drewN HQ.out _
            have hdW := (hBW.cell (p := ⟨b, off + k * 2, none⟩) (by dsimp only; omega)).trans d0
            have heW := (hBW.cell (p := ⟨b, off + k * 2 + 1, none⟩) (by dsimp only; omega)).trans d1
            have hgW := Nat.lt_of_lt_of_le hg2 hBW.size
            have hjc : j ≤ cp := by omega
            have hjm2 : j ≤ m := by omega
            obtain ⟨o, ho1, ho2⟩ : ∃ o : Nat, (cp = j → o = 0) ∧ (¬ cp = j → o = j * 2) := by
              by_cases e : cp = j
              · exact ⟨0, fun _ => rfl, fun h => absurd e h⟩
              · exact ⟨j * 2, fun h => absurd h e, fun _ => rfl⟩
            clear hW
            have hBW2 := hBW
            have HSk := Lib.hid (fun w' (hq : Below W.heap.size W w') => (And.intro ((hq.cell (p := ⟨b, off + k * 2, none⟩) (by dsimp only; have := hBW.size; omega)).trans hdW) ((hq.cell (p := ⟨b, off + k * 2 + 1, none⟩) (by dsimp only; have := hBW.size; omega)).trans heW) : w'.cell? ⟨b, off + k * 2, none⟩ = some (.string x.name) ∧ w'.cell? ⟨b, off + k * 2 + 1, none⟩ = some (.int .i64 x.link)))
            clear d0 d1 d2 hdW heW hBW
            refine rh.go_begin 15 (fun w' => w'.cell? ⟨b, off + k * 2, none⟩ = some (.string x.name) ∧ w'.cell? ⟨b, off + k * 2 + 1, none⟩ = some (.int .i64 x.link)) (by kernel_rfl) ?_ (fun hHeld => ?_)
            · ((try dsimp only); exact HSk.out _ (by go_grown))
            refine rh.go_take (i := 1) (v := ?v1) rfl (by kernel_rfl) (fun _ _ _ h => h) (Or.inl ⟨by rfl, ?hy1⟩) (by assumption) ?rest1
            case hy1 => (intro wS hSw; (try dsimp only at hSw); go_simp; try (with_reducible rfl))
            try simp only [Act.put, List.setIfInBounds_toArray, List.set_cons_zero, List.set_cons_succ]
            refine rh.go_take (i := 2) (v := ?v2) rfl (by kernel_rfl) (fun _ _ _ h => h) (Or.inl ⟨by rfl, ?hy2⟩) (by assumption) ?rest2
            case hy2 => (intro wS hSw; (try dsimp only at hSw); go_simp; try (with_reducible rfl))
            try simp only [Act.put, List.setIfInBounds_toArray, List.set_cons_zero, List.set_cons_succ]
            refine rh.go_take (i := 3) (v := .slice (some ⟨g, 0, none⟩) j cp) rfl (by kernel_rfl) (fun _ _ _ h => h) (Or.inl ⟨by rfl, ?hyA1⟩) (by assumption) ?restA1
            case hyA1 => (intro wS hSw; (try dsimp only at hSw); go_simp)
            try simp only [Act.put, List.setIfInBounds_toArray, List.set_cons_zero, List.set_cons_succ]
            refine rh.go_take (i := 5) (v := ?v3) rfl (by kernel_rfl) (fun _ _ _ h => h) (Or.inl ⟨by rfl, ?hy3⟩) (by assumption) ?rest3
            case hy3 => (intro wS hSw; (try dsimp only at hSw); go_simp; try (with_reducible rfl))
            try simp only [Act.put, List.setIfInBounds_toArray, List.set_cons_zero, List.set_cons_succ]
            refine rh.go_take (i := 6) (v := ?v4) rfl (by kernel_rfl) (fun _ _ _ h => h) (Or.inl ⟨by rfl, ?hy4⟩) (by assumption) ?rest4
            case hy4 => (intro wS hSw; (try dsimp only at hSw); go_simp; try (with_reducible rfl))
            try simp only [Act.put, List.setIfInBounds_toArray, List.set_cons_zero, List.set_cons_succ]
            refine rh.go_take (i := 7) (v := ?v5) rfl (by kernel_rfl) (fun _ _ _ h => h) (Or.inl ⟨by rfl, ?hy5⟩) (by assumption) ?rest5
            case hy5 => (intro wS hSw; (try dsimp only at hSw); go_simp; try (with_reducible rfl))
            try simp only [Act.put, List.setIfInBounds_toArray, List.set_cons_zero, List.set_cons_succ]
            refine rh.go_take (i := 8) (v := ?v6) rfl (by kernel_rfl) (fun _ _ _ h => h) (Or.inl ⟨by rfl, ?hy6⟩) (by assumption) ?rest6
            case hy6 => (intro wS hSw; (try dsimp only at hSw); go_simp; try (with_reducible rfl))
            try simp only [Act.put, List.setIfInBounds_toArray, List.set_cons_zero, List.set_cons_succ]
            refine rh.go_take (i := 11) (v := ?v7) rfl (by kernel_rfl) (fun _ _ _ h => h) (Or.inl ⟨by rfl, ?hy7⟩) (by assumption) ?rest7
            case hy7 => (intro wS hSw; (try dsimp only at hSw); go_simp; try (with_reducible rfl))
            try simp only [Act.put, List.setIfInBounds_toArray, List.set_cons_zero, List.set_cons_succ]
            refine rh.go_take (i := 12) (v := ?v8) rfl (by kernel_rfl) (fun _ _ _ h => h) (Or.inl ⟨by rfl, ?hy8⟩) (by assumption) ?rest8
            case hy8 => (intro wS hSw; (try dsimp only at hSw); go_simp; try (with_reducible rfl))
            try simp only [Act.put, List.setIfInBounds_toArray, List.set_cons_zero, List.set_cons_succ]
            refine rh.go_take (i := 13) (v := .slice (some ⟨g, o, none⟩) (m - j) (cp - j)) rfl (by kernel_rfl) (fun _ _ _ h => h) (Or.inl ⟨by rfl, ?hyB1⟩) (by assumption) ?restB1
            case hyB1 => (intro wS hSw; (try dsimp only at hSw); go_simp; by_cases e : cp = j <;> simp_all)
            try simp only [Act.put, List.setIfInBounds_toArray, List.set_cons_zero, List.set_cons_succ]
            clear hjc
            have hBD := (Below.refl W.heap.size W).drew
            have HS0 := Lib.hid (fun w' (hq : Below W.heap.size W w') => HSr.out.below (hBW2.trans (hq.mono hBW2.size)))
            have HDr : Hid (j < m → o = j * 2) := Lib.hid (fun h => ho2 (by omega))
            have HTl : Hid ((wcs (L.take j)).length = j * 2) := Lib.hid (by rw [wcs_len, List.length_take]; have := HM.out; omega)
            have HDl : Hid ((wcs (L.drop j)).length = (m - j) * 2) := Lib.hid (by rw [wcs_len, List.length_drop, HM.out])
            have hmn : m ≤ 1048576 := by omega
            refine go_two (i := 0) (j := 9) rfl rfl (by kernel_rfl) (fun K2 hK => ?_) (fun K2 hK => ?_)
            · go_simp
              have hb1 := hBD.alloc (Nat.le_refl _) (.cells #[] 139)
              have ho1 := ownsRow_nil_new W.drew 139 2 W.heap.size (Nat.le_refl _)
              refine hK.out _ _ ?_ (fun hHeld => ?_)
              · ((try dsimp only); exact HSk.out _ hb1)
              clear hK K2 hHeld
              try simp only [Act.put, List.setIfInBounds_toArray, List.set_cons_zero, List.set_cons_succ]
              have hz1 : (W.drew.alloc (.cells #[] 139)).heap.size = W.heap.size + 1 := World.size_alloc ..
              try rw [show W.drew.heap.size = W.heap.size from rfl] at ho1
              try rw [show W.drew.heap.size = W.heap.size from rfl]
              rw [show W.drew.alloc (.cells #[] 139) = (W.alloc (.cells #[] 139)).drew from rfl] at ho1 hz1 hb1
              obtain ⟨W1, hW1⟩ : ∃ W1, (W.alloc (.cells #[] 139)).drew = W1 := ⟨_, rfl⟩
              rw [hW1] at ho1 hz1 hb1 ⊢
              clear hW1
              refine go_two (i := 4) (j := 9) rfl rfl (by kernel_rfl) (fun K2 hK => ?_) (fun K2 hK => ?_)
              · refine sa.step_append_own rfl _ _ 34 rfl W.heap.size 139 i0 (.agg #[.string ⟨#[]⟩, .int .i64 0]) 2 24 Tryz.underlying34 HI.out.1 HI.out.2.1 HI.out.2.2.1 HI.out.2.2.2 rfl (by decide) _ _ _ (by first | rfl | simp [Act.eval, Act.put]) ho1 ⟨g, 0, none⟩ j cp (wcs (L.take j)) (by first | rfl | simp [Act.eval, Act.put]) HTl.out (take_cells (HS0.out _ hb1)) (wcs_one _) (by unfold maxLen; omega) (by omega) hb1.size ?_
                intro v1 W2 own1 grow1 nil1
                have hb2 := hb1.grown grow1 hb1.size (fun r e => (ho1.lt r e).1)
                refine hK.out _ _ ?_ (fun hHeld => ?_)
                · ((try dsimp only); exact HSk.out _ hb2)
                clear hK K2 hHeld grow1 nil1
                try simp only [Act.put, List.setIfInBounds_toArray, List.set_cons_zero, List.set_cons_succ]
                refine rh.go_next (i := 9) rfl (by kernel_rfl) (fun K2 hK => ?_)
                go_simp
                have own2 := own1.alloc (.cells #[.string x.name, .int .i64 x.link] 139)
                have hb3 := hb2.alloc hb2.size (.cells #[.string x.name, .int .i64 x.link] 139)
                have hc3 := cells_two_new W2 (.string x.name) (.int .i64 x.link) 139
                refine hK.out _ _ ?_ (fun hHeld => ?_)
                · ((try dsimp only); exact HSk.out _ hb3)
                clear hK K2 hHeld
                try simp only [Act.put, List.setIfInBounds_toArray, List.set_cons_zero, List.set_cons_succ]
                obtain ⟨W3, hW3⟩ : ∃ W3, W2.alloc (.cells #[.string x.name, .int .i64 x.link] 139) = W3 := ⟨_, rfl⟩
                obtain ⟨β, hβ⟩ : ∃ β, W2.heap.size = β := ⟨_, rfl⟩
                rw [hW3] at own2 hb3 hc3 ⊢
                rw [hβ] at hc3 ⊢
                clear hW3 hβ own1 hb2
                refine rh.go_next (i := 10) rfl (by kernel_rfl) (fun K2 hK => ?_)
                refine sa.step_append_own rfl _ _ 34 rfl W.heap.size 139 i0 (.agg #[.string ⟨#[]⟩, .int .i64 0]) 2 24 Tryz.underlying34 HI.out.1 HI.out.2.1 HI.out.2.2.1 HI.out.2.2.2 rfl (by decide) _ _ _ (by first | rfl | simp [Act.eval, Act.put]) own2 _ 1 1 [.string x.name, .int .i64 x.link] (by first | rfl | simp [Act.eval, Act.put]) rfl hc3 (one_two x) (by unfold maxLen; omega) (by omega) hb3.size ?_
                intro v2 W4 own4 grow4 nil4
                have hb4 := hb3.grown grow4 hb3.size (fun r e => (own2.lt r e).1)
                refine hK.out _ _ ?_ (fun hHeld => ?_)
                · ((try dsimp only); exact HSk.out _ hb4)
                have hv2 : v2 ≠ .slice none 0 0 := fun e => by have := (nil4.1 e).2; omega
                clear hK K2 hHeld grow4 nil4 hc3 own2 hb3
                try simp only [Act.put, List.setIfInBounds_toArray, List.set_cons_zero, List.set_cons_succ]
                refine rh.go_next (i := 14) rfl (by kernel_rfl) (fun K2 hK => ?_)
                refine sa.step_append_own rfl _ _ 34 rfl W.heap.size 139 i0 (.agg #[.string ⟨#[]⟩, .int .i64 0]) 2 24 Tryz.underlying34 HI.out.1 HI.out.2.1 HI.out.2.2.1 HI.out.2.2.2 rfl (by decide) _ _ _ (by first | rfl | simp [Act.eval, Act.put]) own4 ⟨g, o, none⟩ (m - j) (cp - j) (wcs (L.drop j)) (by first | rfl | simp [Act.eval, Act.put]) HDl.out (drop_cells (HS0.out _ hb4) HDr.out) (wcs_one _) (by unfold maxLen; omega) (by omega) hb4.size ?_
                intro v3 W5 own5 grow5 nil5
                have hb5 := hb4.grown grow5 hb4.size (fun r e => (own4.lt r e).1)
                refine hK.out _ _ ?_ (fun hHeld => ?_)
                · ((try dsimp only); exact HSk.out _ hb5)
                have hv3 : v3 ≠ .slice none 0 0 := fun e => hv2 (nil5.1 e).1
                clear hK K2 hHeld grow5 nil5 own4 hb4
                try simp only [Act.put, List.setIfInBounds_toArray, List.set_cons_zero, List.set_cons_succ]
                refine rh.go_last rfl (by kernel_rfl) (fun K2 hK => ?_)
                go_simp
                refine hK.out _ _ ?_
                refine NoPanic.normal ?_
                clear hK K2
                have HO5 := Lib.hid own5
                have HB5 := Lib.hid hb5
                clear own5 hb5
                go_wp2_with fail
                go_roundw
                case rel => exact ⟨k + 1, by omega, by go_num, by rw [HIn.out]; exact owns_of (HO5.out) (Nat.le_trans hsz hBW2.size) hv3 HM.out hjm2, (HB.out.trans (hBW2.mono HB.out.size)).trans (HB5.out.mono (Nat.le_trans hsz hBW2.size))⟩
                case measure => simp [intOf]; omega
              · go_simp
                have own1 := ho1.alloc (.cells #[.string x.name, .int .i64 x.link] 139)
                have hb2 := hb1.alloc hb1.size (.cells #[.string x.name, .int .i64 x.link] 139)
                have hc2 := cells_two_new W1 (.string x.name) (.int .i64 x.link) 139
                refine hK.out _ _ ?_ (fun hHeld => ?_)
                · ((try dsimp only); exact HSk.out _ hb2)
                clear hK K2 hHeld
                try simp only [Act.put, List.setIfInBounds_toArray, List.set_cons_zero, List.set_cons_succ]
                have hz2 : (W1.alloc (.cells #[.string x.name, .int .i64 x.link] 139)).heap.size = W1.heap.size + 1 := World.size_alloc ..
                obtain ⟨W2, hW2⟩ : ∃ W2, W1.alloc (.cells #[.string x.name, .int .i64 x.link] 139) = W2 := ⟨_, rfl⟩
                rw [hW2] at own1 hb2 hc2 hz2 ⊢
                rw [hz1] at hc2 hz2
                clear hW2
                refine rh.go_next (i := 4) rfl (by kernel_rfl) (fun K2 hK => ?_)
                refine sa.step_append_own rfl _ _ 34 rfl W.heap.size 139 i0 (.agg #[.string ⟨#[]⟩, .int .i64 0]) 2 24 Tryz.underlying34 HI.out.1 HI.out.2.1 HI.out.2.2.1 HI.out.2.2.2 rfl (by decide) _ _ _ (by first | rfl | simp [Act.eval, Act.put]) own1 ⟨g, 0, none⟩ j cp (wcs (L.take j)) (by first | rfl | simp [Act.eval, Act.put]) HTl.out (take_cells (HS0.out _ hb2)) (wcs_one _) (by unfold maxLen; omega) (by omega) hb2.size ?_
                intro v1 W3 own2 grow1 nil1
                have hb3 := hb2.grown grow1 hb2.size (fun r e => (own1.lt r e).1)
                have hc3 := two_keep hc2 grow1 (by omega) (by first | (simp [Value.ownBlock]; done) | (simp [Value.ownBlock]; omega))
                refine hK.out _ _ ?_ (fun hHeld => ?_)
                · ((try dsimp only); exact HSk.out _ hb3)
                clear hK K2 hHeld grow1 nil1 hc2 own1 hb2
                try simp only [Act.put, List.setIfInBounds_toArray, List.set_cons_zero, List.set_cons_succ]
                refine rh.go_next (i := 10) rfl (by kernel_rfl) (fun K2 hK => ?_)
                refine sa.step_append_own rfl _ _ 34 rfl W.heap.size 139 i0 (.agg #[.string ⟨#[]⟩, .int .i64 0]) 2 24 Tryz.underlying34 HI.out.1 HI.out.2.1 HI.out.2.2.1 HI.out.2.2.2 rfl (by decide) _ _ _ (by first | rfl | simp [Act.eval, Act.put]) own2 _ 1 1 [.string x.name, .int .i64 x.link] (by first | rfl | simp [Act.eval, Act.put]) rfl hc3 (one_two x) (by unfold maxLen; omega) (by omega) hb3.size ?_
                intro v2 W4 own4 grow4 nil4
                have hb4 := hb3.grown grow4 hb3.size (fun r e => (own2.lt r e).1)
                refine hK.out _ _ ?_ (fun hHeld => ?_)
                · ((try dsimp only); exact HSk.out _ hb4)
                have hv2 : v2 ≠ .slice none 0 0 := fun e => by have := (nil4.1 e).2; omega
                clear hK K2 hHeld grow4 nil4 hc3 own2 hb3
                try simp only [Act.put, List.setIfInBounds_toArray, List.set_cons_zero, List.set_cons_succ]
                refine rh.go_next (i := 14) rfl (by kernel_rfl) (fun K2 hK => ?_)
                refine sa.step_append_own rfl _ _ 34 rfl W.heap.size 139 i0 (.agg #[.string ⟨#[]⟩, .int .i64 0]) 2 24 Tryz.underlying34 HI.out.1 HI.out.2.1 HI.out.2.2.1 HI.out.2.2.2 rfl (by decide) _ _ _ (by first | rfl | simp [Act.eval, Act.put]) own4 ⟨g, o, none⟩ (m - j) (cp - j) (wcs (L.drop j)) (by first | rfl | simp [Act.eval, Act.put]) HDl.out (drop_cells (HS0.out _ hb4) HDr.out) (wcs_one _) (by unfold maxLen; omega) (by omega) hb4.size ?_
                intro v3 W5 own5 grow5 nil5
                have hb5 := hb4.grown grow5 hb4.size (fun r e => (own4.lt r e).1)
                refine hK.out _ _ ?_ (fun hHeld => ?_)
                · ((try dsimp only); exact HSk.out _ hb5)
                have hv3 : v3 ≠ .slice none 0 0 := fun e => hv2 (nil5.1 e).1
                clear hK K2 hHeld grow5 nil5 own4 hb4
                try simp only [Act.put, List.setIfInBounds_toArray, List.set_cons_zero, List.set_cons_succ]
                refine rh.go_last rfl (by kernel_rfl) (fun K2 hK => ?_)
                go_simp
                refine hK.out _ _ ?_
                refine NoPanic.normal ?_
                clear hK K2
                have HO5 := Lib.hid own5
                have HB5 := Lib.hid hb5
                clear own5 hb5
                go_wp2_with fail
                go_roundw
                case rel => exact ⟨k + 1, by omega, by go_num, by rw [HIn.out]; exact owns_of (HO5.out) (Nat.le_trans hsz hBW2.size) hv3 HM.out hjm2, (HB.out.trans (hBW2.mono HB.out.size)).trans (HB5.out.mono (Nat.le_trans hsz hBW2.size))⟩
                case measure => simp [intOf]; omega
            · go_simp
              have hb1 := hBD.alloc (Nat.le_refl _) (.cells #[.string x.name, .int .i64 x.link] 139)
              have hc1 := cells_two_new W.drew (.string x.name) (.int .i64 x.link) 139
              refine hK.out _ _ ?_ (fun hHeld => ?_)
              · ((try dsimp only); exact HSk.out _ hb1)
              clear hK K2 hHeld
              try simp only [Act.put, List.setIfInBounds_toArray, List.set_cons_zero, List.set_cons_succ]
              have hz1 : (W.drew.alloc (.cells #[.string x.name, .int .i64 x.link] 139)).heap.size = W.heap.size + 1 := World.size_alloc ..
              try rw [show W.drew.heap.size = W.heap.size from rfl] at hc1
              try rw [show W.drew.heap.size = W.heap.size from rfl]
              rw [show W.drew.alloc (.cells #[.string x.name, .int .i64 x.link] 139) = (W.alloc (.cells #[.string x.name, .int .i64 x.link] 139)).drew from rfl] at hc1 hz1 hb1
              obtain ⟨W1, hW1⟩ : ∃ W1, (W.alloc (.cells #[.string x.name, .int .i64 x.link] 139)).drew = W1 := ⟨_, rfl⟩
              rw [hW1] at hc1 hz1 hb1 ⊢
              clear hW1
              refine rh.go_next (i := 0) rfl (by kernel_rfl) (fun K2 hK => ?_)
              go_simp
              have own1 := ownsRow_nil_new W1 139 2 W.heap.size hb1.size
              have hb2 := hb1.alloc hb1.size (.cells #[] 139)
              have hc2 : ∀ (i : Nat) u, [Value.string x.name, Value.int .i64 x.link][i]? = some u → (W1.alloc (.cells #[] 139)).cell? ((⟨W.heap.size, 0, none⟩ : Addr).add i) = some u := two_keep hc1 (World.grownBy_alloc W1 (.cells #[] 139) none) (by omega) (by simp)
              refine hK.out _ _ ?_ (fun hHeld => ?_)
              · ((try dsimp only); exact HSk.out _ hb2)
              clear hK K2 hHeld
              try simp only [Act.put, List.setIfInBounds_toArray, List.set_cons_zero, List.set_cons_succ]
              have hz2 : (W1.alloc (.cells #[] 139)).heap.size = W1.heap.size + 1 := World.size_alloc ..
              obtain ⟨W2, hW2⟩ : ∃ W2, W1.alloc (.cells #[] 139) = W2 := ⟨_, rfl⟩
              rw [hW2] at own1 hb2 hc2 hz2 ⊢
              clear hW2
              refine rh.go_next (i := 4) rfl (by kernel_rfl) (fun K2 hK => ?_)
              refine sa.step_append_own rfl _ _ 34 rfl W.heap.size 139 i0 (.agg #[.string ⟨#[]⟩, .int .i64 0]) 2 24 Tryz.underlying34 HI.out.1 HI.out.2.1 HI.out.2.2.1 HI.out.2.2.2 rfl (by decide) _ _ _ (by first | rfl | simp [Act.eval, Act.put]) own1 ⟨g, 0, none⟩ j cp (wcs (L.take j)) (by first | rfl | simp [Act.eval, Act.put]) HTl.out (take_cells (HS0.out _ hb2)) (wcs_one _) (by unfold maxLen; omega) (by omega) hb2.size ?_
              intro v1 W3 own2 grow1 nil1
              have hb3 := hb2.grown grow1 hb2.size (fun r e => (own1.lt r e).1)
              have hc3 := two_keep hc2 grow1 (by omega) (by first | (simp [Value.ownBlock]; done) | (simp [Value.ownBlock]; omega))
              refine hK.out _ _ ?_ (fun hHeld => ?_)
              · ((try dsimp only); exact HSk.out _ hb3)
              clear hK K2 hHeld grow1 nil1 hc2 own1 hb2
              try simp only [Act.put, List.setIfInBounds_toArray, List.set_cons_zero, List.set_cons_succ]
              obtain ⟨β, hβ⟩ : ∃ β, W.heap.size = β := ⟨_, rfl⟩
              refine rh.go_next (i := 10) rfl (by kernel_rfl) (fun K2 hK => ?_)
              refine sa.step_append_own rfl _ _ 34 rfl W.heap.size 139 i0 (.agg #[.string ⟨#[]⟩, .int .i64 0]) 2 24 Tryz.underlying34 HI.out.1 HI.out.2.1 HI.out.2.2.1 HI.out.2.2.2 rfl (by decide) _ _ _ (by first | rfl | simp [Act.eval, Act.put]) own2 _ 1 1 [.string x.name, .int .i64 x.link] (by first | rfl | simp [Act.eval, Act.put]) rfl hc3 (one_two x) (by unfold maxLen; omega) (by omega) hb3.size ?_
              intro v2 W4 own4 grow4 nil4
              have hb4 := hb3.grown grow4 hb3.size (fun r e => (own2.lt r e).1)
              refine hK.out _ _ ?_ (fun hHeld => ?_)
              · ((try dsimp only); exact HSk.out _ hb4)
              have hv2 : v2 ≠ .slice none 0 0 := fun e => by have := (nil4.1 e).2; omega
              clear hK K2 hHeld grow4 nil4 hc3 own2 hb3
              try simp only [Act.put, List.setIfInBounds_toArray, List.set_cons_zero, List.set_cons_succ]
              refine rh.go_next (i := 14) rfl (by kernel_rfl) (fun K2 hK => ?_)
              refine sa.step_append_own rfl _ _ 34 rfl W.heap.size 139 i0 (.agg #[.string ⟨#[]⟩, .int .i64 0]) 2 24 Tryz.underlying34 HI.out.1 HI.out.2.1 HI.out.2.2.1 HI.out.2.2.2 rfl (by decide) _ _ _ (by first | rfl | simp [Act.eval, Act.put]) own4 ⟨g, o, none⟩ (m - j) (cp - j) (wcs (L.drop j)) (by first | rfl | simp [Act.eval, Act.put]) HDl.out (drop_cells (HS0.out _ hb4) HDr.out) (wcs_one _) (by unfold maxLen; omega) (by omega) hb4.size ?_
              intro v3 W5 own5 grow5 nil5
              have hb5 := hb4.grown grow5 hb4.size (fun r e => (own4.lt r e).1)
              refine hK.out _ _ ?_ (fun hHeld => ?_)
              · ((try dsimp only); exact HSk.out _ hb5)
              have hv3 : v3 ≠ .slice none 0 0 := fun e => hv2 (nil5.1 e).1
              clear hK K2 hHeld grow5 nil5 own4 hb4
              try simp only [Act.put, List.setIfInBounds_toArray, List.set_cons_zero, List.set_cons_succ]
              refine rh.go_last rfl (by kernel_rfl) (fun K2 hK => ?_)
              go_simp
              refine hK.out _ _ ?_
              refine NoPanic.normal ?_
              clear hK K2
              have HO5 := Lib.hid own5
              have HB5 := Lib.hid hb5
              clear own5 hb5
              go_wp2_with fail
              go_roundw
              case rel => exact ⟨k + 1, by omega, by go_num, by rw [HIn.out]; exact owns_of (HO5.out) (Nat.le_trans hsz hBW2.size) hv3 HM.out hjm2, (HB.out.trans (hBW2.mono HB.out.size)).trans (HB5.out.mono (Nat.le_trans hsz hBW2.size))⟩
              case measure => simp [intOf]; omega
        · have HIn := Lib.hid (HT.out.trans (insW_put L j HA.out (by have := HM.out; omega) (fun z hz => absurd (List.getElem?_eq_some_iff.1 hz).1 (by have := HM.out; omega))))
          go_wp2_with fail
          go_quiet (fail)
          go_wp2_with fail
          refine wp_name (fun W hW => ?_)
          have hBW : Below wr.heap.size wr W := by rw [hW]; exact below_drewN HQ.out _
          have hdW := (hBW.cell (p := ⟨b, off + k * 2, none⟩) (by dsimp only; omega)).trans d0
          have heW := (hBW.cell (p := ⟨b, off + k * 2 + 1, none⟩) (by dsimp only; omega)).trans d1
          have hgW := Nat.lt_of_lt_of_le hg2 hBW.size
          have hjc : j ≤ cp := by omega
          have hjm2 : j ≤ m := by omega
          obtain ⟨o, ho1, ho2⟩ : ∃ o : Nat, (cp = j → o = 0) ∧ (¬ cp = j → o = j * 2) := by
            by_cases e : cp = j
            · exact ⟨0, fun _ => rfl, fun h => absurd e h⟩
            · exact ⟨j * 2, fun h => absurd h e, fun _ => rfl⟩
          clear hW
          have hBW2 := hBW
          have HSk := Lib.hid (fun w' (hq : Below W.heap.size W w') => (And.intro ((hq.cell (p := ⟨b, off + k * 2, none⟩) (by dsimp only; have := hBW.size; omega)).trans hdW) ((hq.cell (p := ⟨b, off + k * 2 + 1, none⟩) (by dsimp only; have := hBW.size; omega)).trans heW) : w'.cell? ⟨b, off + k * 2, none⟩ = some (.string x.name) ∧ w'.cell? ⟨b, off + k * 2 + 1, none⟩ = some (.int .i64 x.link)))
          clear d0 d1 d2 hdW heW hBW
          refine rh.go_begin 15 (fun w' => w'.cell? ⟨b, off + k * 2, none⟩ = some (.string x.name) ∧ w'.cell? ⟨b, off + k * 2 + 1, none⟩ = some (.int .i64 x.link)) (by kernel_rfl) ?_ (fun hHeld => ?_)
          · ((try dsimp only); exact HSk.out _ (by go_grown))
          refine rh.go_take (i := 1) (v := ?v9) rfl (by kernel_rfl) (fun _ _ _ h => h) (Or.inl ⟨by rfl, ?hy9⟩) (by assumption) ?rest9
          case hy9 => (intro wS hSw; (try dsimp only at hSw); go_simp; try (with_reducible rfl))
          try simp only [Act.put, List.setIfInBounds_toArray, List.set_cons_zero, List.set_cons_succ]
          refine rh.go_take (i := 2) (v := ?v10) rfl (by kernel_rfl) (fun _ _ _ h => h) (Or.inl ⟨by rfl, ?hy10⟩) (by assumption) ?rest10
          case hy10 => (intro wS hSw; (try dsimp only at hSw); go_simp; try (with_reducible rfl))
          try simp only [Act.put, List.setIfInBounds_toArray, List.set_cons_zero, List.set_cons_succ]
          refine rh.go_take (i := 3) (v := .slice (some ⟨g, 0, none⟩) j cp) rfl (by kernel_rfl) (fun _ _ _ h => h) (Or.inl ⟨by rfl, ?hyA2⟩) (by assumption) ?restA2
          case hyA2 => (intro wS hSw; (try dsimp only at hSw); go_simp)
          try simp only [Act.put, List.setIfInBounds_toArray, List.set_cons_zero, List.set_cons_succ]
          refine rh.go_take (i := 5) (v := ?v11) rfl (by kernel_rfl) (fun _ _ _ h => h) (Or.inl ⟨by rfl, ?hy11⟩) (by assumption) ?rest11
          case hy11 => (intro wS hSw; (try dsimp only at hSw); go_simp; try (with_reducible rfl))
          try simp only [Act.put, List.setIfInBounds_toArray, List.set_cons_zero, List.set_cons_succ]
          refine rh.go_take (i := 6) (v := ?v12) rfl (by kernel_rfl) (fun _ _ _ h => h) (Or.inl ⟨by rfl, ?hy12⟩) (by assumption) ?rest12
          case hy12 => (intro wS hSw; (try dsimp only at hSw); go_simp; try (with_reducible rfl))
          try simp only [Act.put, List.setIfInBounds_toArray, List.set_cons_zero, List.set_cons_succ]
          refine rh.go_take (i := 7) (v := ?v13) rfl (by kernel_rfl) (fun _ _ _ h => h) (Or.inl ⟨by rfl, ?hy13⟩) (by assumption) ?rest13
          case hy13 => (intro wS hSw; (try dsimp only at hSw); go_simp; try (with_reducible rfl))
          try simp only [Act.put, List.setIfInBounds_toArray, List.set_cons_zero, List.set_cons_succ]
          refine rh.go_take (i := 8) (v := ?v14) rfl (by kernel_rfl) (fun _ _ _ h => h) (Or.inl ⟨by rfl, ?hy14⟩) (by assumption) ?rest14
          case hy14 => (intro wS hSw; (try dsimp only at hSw); go_simp; try (with_reducible rfl))
          try simp only [Act.put, List.setIfInBounds_toArray, List.set_cons_zero, List.set_cons_succ]
          refine rh.go_take (i := 11) (v := ?v15) rfl (by kernel_rfl) (fun _ _ _ h => h) (Or.inl ⟨by rfl, ?hy15⟩) (by assumption) ?rest15
          case hy15 => (intro wS hSw; (try dsimp only at hSw); go_simp; try (with_reducible rfl))
          try simp only [Act.put, List.setIfInBounds_toArray, List.set_cons_zero, List.set_cons_succ]
          refine rh.go_take (i := 12) (v := ?v16) rfl (by kernel_rfl) (fun _ _ _ h => h) (Or.inl ⟨by rfl, ?hy16⟩) (by assumption) ?rest16
          case hy16 => (intro wS hSw; (try dsimp only at hSw); go_simp; try (with_reducible rfl))
          try simp only [Act.put, List.setIfInBounds_toArray, List.set_cons_zero, List.set_cons_succ]
          refine rh.go_take (i := 13) (v := .slice (some ⟨g, o, none⟩) (m - j) (cp - j)) rfl (by kernel_rfl) (fun _ _ _ h => h) (Or.inl ⟨by rfl, ?hyB2⟩) (by assumption) ?restB2
          case hyB2 => (intro wS hSw; (try dsimp only at hSw); go_simp; by_cases e : cp = j <;> simp_all)
          try simp only [Act.put, List.setIfInBounds_toArray, List.set_cons_zero, List.set_cons_succ]
          clear hjc
          have hBD := (Below.refl W.heap.size W).drew
          have HS0 := Lib.hid (fun w' (hq : Below W.heap.size W w') => HSr.out.below (hBW2.trans (hq.mono hBW2.size)))
          have HDr : Hid (j < m → o = j * 2) := Lib.hid (fun h => ho2 (by omega))
          have HTl : Hid ((wcs (L.take j)).length = j * 2) := Lib.hid (by rw [wcs_len, List.length_take]; have := HM.out; omega)
          have HDl : Hid ((wcs (L.drop j)).length = (m - j) * 2) := Lib.hid (by rw [wcs_len, List.length_drop, HM.out])
          have hmn : m ≤ 1048576 := by omega
          refine go_two (i := 0) (j := 9) rfl rfl (by kernel_rfl) (fun K2 hK => ?_) (fun K2 hK => ?_)
          · go_simp
            have hb1 := hBD.alloc (Nat.le_refl _) (.cells #[] 139)
            have ho1 := ownsRow_nil_new W.drew 139 2 W.heap.size (Nat.le_refl _)
            refine hK.out _ _ ?_ (fun hHeld => ?_)
            · ((try dsimp only); exact HSk.out _ hb1)
            clear hK K2 hHeld
            try simp only [Act.put, List.setIfInBounds_toArray, List.set_cons_zero, List.set_cons_succ]
            have hz1 : (W.drew.alloc (.cells #[] 139)).heap.size = W.heap.size + 1 := World.size_alloc ..
            try rw [show W.drew.heap.size = W.heap.size from rfl] at ho1
            try rw [show W.drew.heap.size = W.heap.size from rfl]
            rw [show W.drew.alloc (.cells #[] 139) = (W.alloc (.cells #[] 139)).drew from rfl] at ho1 hz1 hb1
            obtain ⟨W1, hW1⟩ : ∃ W1, (W.alloc (.cells #[] 139)).drew = W1 := ⟨_, rfl⟩
            rw [hW1] at ho1 hz1 hb1 ⊢
            clear hW1
            refine go_two (i := 4) (j := 9) rfl rfl (by kernel_rfl) (fun K2 hK => ?_) (fun K2 hK => ?_)
            · refine sa.step_append_own rfl _ _ 34 rfl W.heap.size 139 i0 (.agg #[.string ⟨#[]⟩, .int .i64 0]) 2 24 Tryz.underlying34 HI.out.1 HI.out.2.1 HI.out.2.2.1 HI.out.2.2.2 rfl (by decide) _ _ _ (by first | rfl | simp [Act.eval, Act.put]) ho1 ⟨g, 0, none⟩ j cp (wcs (L.take j)) (by first | rfl | simp [Act.eval, Act.put]) HTl.out (take_cells (HS0.out _ hb1)) (wcs_one _) (by unfold maxLen; omega) (by omega) hb1.size ?_
              intro v1 W2 own1 grow1 nil1
              have hb2 := hb1.grown grow1 hb1.size (fun r e => (ho1.lt r e).1)
              refine hK.out _ _ ?_ (fun hHeld => ?_)
              · ((try dsimp only); exact HSk.out _ hb2)
              clear hK K2 hHeld grow1 nil1
              try simp only [Act.put, List.setIfInBounds_toArray, List.set_cons_zero, List.set_cons_succ]
              refine rh.go_next (i := 9) rfl (by kernel_rfl) (fun K2 hK => ?_)
              go_simp
              have own2 := own1.alloc (.cells #[.string x.name, .int .i64 x.link] 139)
              have hb3 := hb2.alloc hb2.size (.cells #[.string x.name, .int .i64 x.link] 139)
              have hc3 := cells_two_new W2 (.string x.name) (.int .i64 x.link) 139
              refine hK.out _ _ ?_ (fun hHeld => ?_)
              · ((try dsimp only); exact HSk.out _ hb3)
              clear hK K2 hHeld
              try simp only [Act.put, List.setIfInBounds_toArray, List.set_cons_zero, List.set_cons_succ]
              obtain ⟨W3, hW3⟩ : ∃ W3, W2.alloc (.cells #[.string x.name, .int .i64 x.link] 139) = W3 := ⟨_, rfl⟩
              obtain ⟨β, hβ⟩ : ∃ β, W2.heap.size = β := ⟨_, rfl⟩
              rw [hW3] at own2 hb3 hc3 ⊢
              rw [hβ] at hc3 ⊢
              clear hW3 hβ own1 hb2
              refine rh.go_next (i := 10) rfl (by kernel_rfl) (fun K2 hK => ?_)
              refine sa.step_append_own rfl _ _ 34 rfl W.heap.size 139 i0 (.agg #[.string ⟨#[]⟩, .int .i64 0]) 2 24 Tryz.underlying34 HI.out.1 HI.out.2.1 HI.out.2.2.1 HI.out.2.2.2 rfl (by decide) _ _ _ (by first | rfl | simp [Act.eval, Act.put]) own2 _ 1 1 [.string x.name, .int .i64 x.link] (by first | rfl | simp [Act.eval, Act.put]) rfl hc3 (one_two x) (by unfold maxLen; omega) (by omega) hb3.size ?_
              intro v2 W4 own4 grow4 nil4
              have hb4 := hb3.grown grow4 hb3.size (fun r e => (own2.lt r e).1)
              refine hK.out _ _ ?_ (fun hHeld => ?_)
              · ((try dsimp only); exact HSk.out _ hb4)
              have hv2 : v2 ≠ .slice none 0 0 := fun e => by have := (nil4.1 e).2; omega
              clear hK K2 hHeld grow4 nil4 hc3 own2 hb3
              try simp only [Act.put, List.setIfInBounds_toArray, List.set_cons_zero, List.set_cons_succ]
              refine rh.go_next (i := 14) rfl (by kernel_rfl) (fun K2 hK => ?_)
              refine sa.step_append_own rfl _ _ 34 rfl W.heap.size 139 i0 (.agg #[.string ⟨#[]⟩, .int .i64 0]) 2 24 Tryz.underlying34 HI.out.1 HI.out.2.1 HI.out.2.2.1 HI.out.2.2.2 rfl (by decide) _ _ _ (by first | rfl | simp [Act.eval, Act.put]) own4 ⟨g, o, none⟩ (m - j) (cp - j) (wcs (L.drop j)) (by first | rfl | simp [Act.eval, Act.put]) HDl.out (drop_cells (HS0.out _ hb4) HDr.out) (wcs_one _) (by unfold maxLen; omega) (by omega) hb4.size ?_
              intro v3 W5 own5 grow5 nil5
              have hb5 := hb4.grown grow5 hb4.size (fun r e => (own4.lt r e).1)
              refine hK.out _ _ ?_ (fun hHeld => ?_)
              · ((try dsimp only); exact HSk.out _ hb5)
              have hv3 : v3 ≠ .slice none 0 0 := fun e => hv2 (nil5.1 e).1
              clear hK K2 hHeld grow5 nil5 own4 hb4
              try simp only [Act.put, List.setIfInBounds_toArray, List.set_cons_zero, List.set_cons_succ]
              refine rh.go_last rfl (by kernel_rfl) (fun K2 hK => ?_)
              go_simp
              refine hK.out _ _ ?_
              refine NoPanic.normal ?_
              clear hK K2
              have HO5 := Lib.hid own5
              have HB5 := Lib.hid hb5
              clear own5 hb5
              go_wp2_with fail
              go_roundw
              case rel => exact ⟨k + 1, by omega, by go_num, by rw [HIn.out]; exact owns_of (HO5.out) (Nat.le_trans hsz hBW2.size) hv3 HM.out hjm2, (HB.out.trans (hBW2.mono HB.out.size)).trans (HB5.out.mono (Nat.le_trans hsz hBW2.size))⟩
              case measure => simp [intOf]; omega
            · go_simp
              have own1 := ho1.alloc (.cells #[.string x.name, .int .i64 x.link] 139)
              have hb2 := hb1.alloc hb1.size (.cells #[.string x.name, .int .i64 x.link] 139)
              have hc2 := cells_two_new W1 (.string x.name) (.int .i64 x.link) 139
              refine hK.out _ _ ?_ (fun hHeld => ?_)
              · ((try dsimp only); exact HSk.out _ hb2)
              clear hK K2 hHeld
              try simp only [Act.put, List.setIfInBounds_toArray, List.set_cons_zero, List.set_cons_succ]
              have hz2 : (W1.alloc (.cells #[.string x.name, .int .i64 x.link] 139)).heap.size = W1.heap.size + 1 := World.size_alloc ..
              obtain ⟨W2, hW2⟩ : ∃ W2, W1.alloc (.cells #[.string x.name, .int .i64 x.link] 139) = W2 := ⟨_, rfl⟩
              rw [hW2] at own1 hb2 hc2 hz2 ⊢
              rw [hz1] at hc2 hz2
              clear hW2
              refine rh.go_next (i := 4) rfl (by kernel_rfl) (fun K2 hK => ?_)
              refine sa.step_append_own rfl _ _ 34 rfl W.heap.size 139 i0 (.agg #[.string ⟨#[]⟩, .int .i64 0]) 2 24 Tryz.underlying34 HI.out.1 HI.out.2.1 HI.out.2.2.1 HI.out.2.2.2 rfl (by decide) _ _ _ (by first | rfl | simp [Act.eval, Act.put]) own1 ⟨g, 0, none⟩ j cp (wcs (L.take j)) (by first | rfl | simp [Act.eval, Act.put]) HTl.out (take_cells (HS0.out _ hb2)) (wcs_one _) (by unfold maxLen; omega) (by omega) hb2.size ?_
              intro v1 W3 own2 grow1 nil1
              have hb3 := hb2.grown grow1 hb2.size (fun r e => (own1.lt r e).1)
              have hc3 := two_keep hc2 grow1 (by omega) (by first | (simp [Value.ownBlock]; done) | (simp [Value.ownBlock]; omega))
              refine hK.out _ _ ?_ (fun hHeld => ?_)
              · ((try dsimp only); exact HSk.out _ hb3)
              clear hK K2 hHeld grow1 nil1 hc2 own1 hb2
              try simp only [Act.put, List.setIfInBounds_toArray, List.set_cons_zero, List.set_cons_succ]
              refine rh.go_next (i := 10) rfl (by kernel_rfl) (fun K2 hK => ?_)
              refine sa.step_append_own rfl _ _ 34 rfl W.heap.size 139 i0 (.agg #[.string ⟨#[]⟩, .int .i64 0]) 2 24 Tryz.underlying34 HI.out.1 HI.out.2.1 HI.out.2.2.1 HI.out.2.2.2 rfl (by decide) _ _ _ (by first | rfl | simp [Act.eval, Act.put]) own2 _ 1 1 [.string x.name, .int .i64 x.link] (by first | rfl | simp [Act.eval, Act.put]) rfl hc3 (one_two x) (by unfold maxLen; omega) (by omega) hb3.size ?_
              intro v2 W4 own4 grow4 nil4
              have hb4 := hb3.grown grow4 hb3.size (fun r e => (own2.lt r e).1)
              refine hK.out _ _ ?_ (fun hHeld => ?_)
              · ((try dsimp only); exact HSk.out _ hb4)
              have hv2 : v2 ≠ .slice none 0 0 := fun e => by have := (nil4.1 e).2; omega
              clear hK K2 hHeld grow4 nil4 hc3 own2 hb3
              try simp only [Act.put, List.setIfInBounds_toArray, List.set_cons_zero, List.set_cons_succ]
              refine rh.go_next (i := 14) rfl (by kernel_rfl) (fun K2 hK => ?_)
              refine sa.step_append_own rfl _ _ 34 rfl W.heap.size 139 i0 (.agg #[.string ⟨#[]⟩, .int .i64 0]) 2 24 Tryz.underlying34 HI.out.1 HI.out.2.1 HI.out.2.2.1 HI.out.2.2.2 rfl (by decide) _ _ _ (by first | rfl | simp [Act.eval, Act.put]) own4 ⟨g, o, none⟩ (m - j) (cp - j) (wcs (L.drop j)) (by first | rfl | simp [Act.eval, Act.put]) HDl.out (drop_cells (HS0.out _ hb4) HDr.out) (wcs_one _) (by unfold maxLen; omega) (by omega) hb4.size ?_
              intro v3 W5 own5 grow5 nil5
              have hb5 := hb4.grown grow5 hb4.size (fun r e => (own4.lt r e).1)
              refine hK.out _ _ ?_ (fun hHeld => ?_)
              · ((try dsimp only); exact HSk.out _ hb5)
              have hv3 : v3 ≠ .slice none 0 0 := fun e => hv2 (nil5.1 e).1
              clear hK K2 hHeld grow5 nil5 own4 hb4
              try simp only [Act.put, List.setIfInBounds_toArray, List.set_cons_zero, List.set_cons_succ]
              refine rh.go_last rfl (by kernel_rfl) (fun K2 hK => ?_)
              go_simp
              refine hK.out _ _ ?_
              refine NoPanic.normal ?_
              clear hK K2
              have HO5 := Lib.hid own5
              have HB5 := Lib.hid hb5
              clear own5 hb5
              go_wp2_with fail
              go_roundw
              case rel => exact ⟨k + 1, by omega, by go_num, by rw [HIn.out]; exact owns_of (HO5.out) (Nat.le_trans hsz hBW2.size) hv3 HM.out hjm2, (HB.out.trans (hBW2.mono HB.out.size)).trans (HB5.out.mono (Nat.le_trans hsz hBW2.size))⟩
              case measure => simp [intOf]; omega
          · go_simp
            have hb1 := hBD.alloc (Nat.le_refl _) (.cells #[.string x.name, .int .i64 x.link] 139)
            have hc1 := cells_two_new W.drew (.string x.name) (.int .i64 x.link) 139
            refine hK.out _ _ ?_ (fun hHeld => ?_)
            · ((try dsimp only); exact HSk.out _ hb1)
            clear hK K2 hHeld
            try simp only [Act.put, List.setIfInBounds_toArray, List.set_cons_zero, List.set_cons_succ]
            have hz1 : (W.drew.alloc (.cells #[.string x.name, .int .i64 x.link] 139)).heap.size = W.heap.size + 1 := World.size_alloc ..
            try rw [show W.drew.heap.size = W.heap.size from rfl] at hc1
            try rw [show W.drew.heap.size = W.heap.size from rfl]
            rw [show W.drew.alloc (.cells #[.string x.name, .int .i64 x.link] 139) = (W.alloc (.cells #[.string x.name, .int .i64 x.link] 139)).drew from rfl] at hc1 hz1 hb1
            obtain ⟨W1, hW1⟩ : ∃ W1, (W.alloc (.cells #[.string x.name, .int .i64 x.link] 139)).drew = W1 := ⟨_, rfl⟩
            rw [hW1] at hc1 hz1 hb1 ⊢
            clear hW1
            refine rh.go_next (i := 0) rfl (by kernel_rfl) (fun K2 hK => ?_)
            go_simp
            have own1 := ownsRow_nil_new W1 139 2 W.heap.size hb1.size
            have hb2 := hb1.alloc hb1.size (.cells #[] 139)
            have hc2 : ∀ (i : Nat) u, [Value.string x.name, Value.int .i64 x.link][i]? = some u → (W1.alloc (.cells #[] 139)).cell? ((⟨W.heap.size, 0, none⟩ : Addr).add i) = some u := two_keep hc1 (World.grownBy_alloc W1 (.cells #[] 139) none) (by omega) (by simp)
            refine hK.out _ _ ?_ (fun hHeld => ?_)
            · ((try dsimp only); exact HSk.out _ hb2)
            clear hK K2 hHeld
            try simp only [Act.put, List.setIfInBounds_toArray, List.set_cons_zero, List.set_cons_succ]
            have hz2 : (W1.alloc (.cells #[] 139)).heap.size = W1.heap.size + 1 := World.size_alloc ..
            obtain ⟨W2, hW2⟩ : ∃ W2, W1.alloc (.cells #[] 139) = W2 := ⟨_, rfl⟩
            rw [hW2] at own1 hb2 hc2 hz2 ⊢
            clear hW2
            refine rh.go_next (i := 4) rfl (by kernel_rfl) (fun K2 hK => ?_)
            refine sa.step_append_own rfl _ _ 34 rfl W.heap.size 139 i0 (.agg #[.string ⟨#[]⟩, .int .i64 0]) 2 24 Tryz.underlying34 HI.out.1 HI.out.2.1 HI.out.2.2.1 HI.out.2.2.2 rfl (by decide) _ _ _ (by first | rfl | simp [Act.eval, Act.put]) own1 ⟨g, 0, none⟩ j cp (wcs (L.take j)) (by first | rfl | simp [Act.eval, Act.put]) HTl.out (take_cells (HS0.out _ hb2)) (wcs_one _) (by unfold maxLen; omega) (by omega) hb2.size ?_
            intro v1 W3 own2 grow1 nil1
            have hb3 := hb2.grown grow1 hb2.size (fun r e => (own1.lt r e).1)
            have hc3 := two_keep hc2 grow1 (by omega) (by first | (simp [Value.ownBlock]; done) | (simp [Value.ownBlock]; omega))
            refine hK.out _ _ ?_ (fun hHeld => ?_)
            · ((try dsimp only); exact HSk.out _ hb3)
            clear hK K2 hHeld grow1 nil1 hc2 own1 hb2
            try simp only [Act.put, List.setIfInBounds_toArray, List.set_cons_zero, List.set_cons_succ]
            obtain ⟨β, hβ⟩ : ∃ β, W.heap.size = β := ⟨_, rfl⟩
            refine rh.go_next (i := 10) rfl (by kernel_rfl) (fun K2 hK => ?_)
            refine sa.step_append_own rfl _ _ 34 rfl W.heap.size 139 i0 (.agg #[.string ⟨#[]⟩, .int .i64 0]) 2 24 Tryz.underlying34 HI.out.1 HI.out.2.1 HI.out.2.2.1 HI.out.2.2.2 rfl (by decide) _ _ _ (by first | rfl | simp [Act.eval, Act.put]) own2 _ 1 1 [.string x.name, .int .i64 x.link] (by first | rfl | simp [Act.eval, Act.put]) rfl hc3 (one_two x) (by unfold maxLen; omega) (by omega) hb3.size ?_
            intro v2 W4 own4 grow4 nil4
            have hb4 := hb3.grown grow4 hb3.size (fun r e => (own2.lt r e).1)
            refine hK.out _ _ ?_ (fun hHeld => ?_)
            · ((try dsimp only); exact HSk.out _ hb4)
            have hv2 : v2 ≠ .slice none 0 0 := fun e => by have := (nil4.1 e).2; omega
            clear hK K2 hHeld grow4 nil4 hc3 own2 hb3
            try simp only [Act.put, List.setIfInBounds_toArray, List.set_cons_zero, List.set_cons_succ]
            refine rh.go_next (i := 14) rfl (by kernel_rfl) (fun K2 hK => ?_)
            refine sa.step_append_own rfl _ _ 34 rfl W.heap.size 139 i0 (.agg #[.string ⟨#[]⟩, .int .i64 0]) 2 24 Tryz.underlying34 HI.out.1 HI.out.2.1 HI.out.2.2.1 HI.out.2.2.2 rfl (by decide) _ _ _ (by first | rfl | simp [Act.eval, Act.put]) own4 ⟨g, o, none⟩ (m - j) (cp - j) (wcs (L.drop j)) (by first | rfl | simp [Act.eval, Act.put]) HDl.out (drop_cells (HS0.out _ hb4) HDr.out) (wcs_one _) (by unfold maxLen; omega) (by omega) hb4.size ?_
            intro v3 W5 own5 grow5 nil5
            have hb5 := hb4.grown grow5 hb4.size (fun r e => (own4.lt r e).1)
            refine hK.out _ _ ?_ (fun hHeld => ?_)
            · ((try dsimp only); exact HSk.out _ hb5)
            have hv3 : v3 ≠ .slice none 0 0 := fun e => hv2 (nil5.1 e).1
            clear hK K2 hHeld grow5 nil5 own4 hb4
            try simp only [Act.put, List.setIfInBounds_toArray, List.set_cons_zero, List.set_cons_succ]
            refine rh.go_last rfl (by kernel_rfl) (fun K2 hK => ?_)
            go_simp
            refine hK.out _ _ ?_
            refine NoPanic.normal ?_
            clear hK K2
            have HO5 := Lib.hid own5
            have HB5 := Lib.hid hb5
            clear own5 hb5
            go_wp2_with fail
            go_roundw
            case rel => exact ⟨k + 1, by omega, by go_num, by rw [HIn.out]; exact owns_of (HO5.out) (Nat.le_trans hsz hBW2.size) hv3 HM.out hjm2, (HB.out.trans (hBW2.mono HB.out.size)).trans (HB5.out.mono (Nat.le_trans hsz hBW2.size))⟩
            case measure => simp [intOf]; omega
    · obtain rfl : n = k := by omega
      have hO2 := hO.1
      rw [List.take_of_length_le (by rw [HL.out]; exact Nat.le_refl _), innW_len, HX.out, HL.out] at hO2
      obtain ⟨A', c', rfl, hr⟩ := wrs_owned hO2
      rw [innW_len, HX.out, HL.out] at hr ⊢
      have HR := Lib.hid hr
      clear hO hO2 hr
      go_wp2_with fail
      go_ret
      exact ⟨_, _, rfl, HR.out, hB⟩
end Go.Proofs.YtfjgapkjpmkplaaGreat.iw
