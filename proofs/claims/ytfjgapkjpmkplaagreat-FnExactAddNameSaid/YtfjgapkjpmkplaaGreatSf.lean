/- slices.SortFunc at Wires, by their names. -/
import Derived.Test.YtfjgapkjpmkplaaGreatSfl
import Derived.Test.YtfjgapkjpmkplaaGreatNj
import Derived.Test.YtfjgapkjpmkplaaGreatSu
import Derived.Shelf.SlSortCmp.NoneTotal
import Derived.Sort.OwnSorted
namespace Go.Proofs.YtfjgapkjpmkplaaGreat.sf
open kit bg sg opn strs only hb sig isig un over gn nm inn ht gd im pt marks eqs hc hi hw hn rs br bm bw cf lf ib isa lawb lw cl nj
open Go.RowKit Go.Sort Go.Shelf
set_option linter.unusedVariables false
set_option linter.unusedSimpArgs false
instance : Inhabited Wr := ⟨⟨⟨#[]⟩, 0⟩⟩
/-- cmp.Compare at strings -/
def cmpS (x y : ByteArray) : Int := if Op.bytesLess x.toList y.toList = true then -1 else if Op.bytesLess y.toList x.toList = true then 1 else 0
theorem nan_any (x : ByteArray) (w : World) : Calls Tryz.prog 258 #[.string x] w fun e w' => e = .returned (.bool false) ∧ w' = w := by
  go_enter Tryz.func258, Tryz.ntmps258
  go_wp2_with fail
  go_ret
  simp
set_option maxHeartbeats 1600000 in
theorem cmp_any (x y : ByteArray) (w : World) : Calls Tryz.prog 242 #[.string x, .string y] w fun e w' => e = .returned (.int .i64 (cmpS x y)) ∧ w' = w := by
  have C1 := nan_any x w
  have C2 := nan_any y w
  cases h1 : Op.bytesLess x.toList y.toList with
  | true =>
    have HR : Hid (cmpS x y = -1) := Lib.hid (by unfold cmpS; rw [h1]; rfl)
    rw [HR.out]
    go_enter Tryz.func242, Tryz.ntmps242
    go_wp2_with fail
    refine C1.mono ?_
    rintro e w1 ⟨rfl, rfl⟩
    go_wp2_with fail
    refine C2.mono ?_
    rintro e w2 ⟨rfl, rfl⟩
    go_wp2_with fail
    go_ret
    exact ⟨rfl, rfl⟩
  | false =>
    cases h2 : Op.bytesLess y.toList x.toList with
    | true =>
      have HR : Hid (cmpS x y = 1) := Lib.hid (by unfold cmpS; rw [h1, h2]; rfl)
      rw [HR.out]
      have h3 : (x.toList == y.toList) = false := by
        cases h : (x.toList == y.toList) with
        | false => rfl
        | true => rw [show x = y from str_eq h] at h1 h2; rw [h1] at h2; cases h2
      go_enter Tryz.func242, Tryz.ntmps242
      go_wp2_with fail
      refine C1.mono ?_
      rintro e w1 ⟨rfl, rfl⟩
      go_wp2_with fail
      refine C2.mono ?_
      rintro e w2 ⟨rfl, rfl⟩
      go_wp2_with fail
      go_ret
      exact ⟨rfl, rfl⟩
    | false =>
      have HR : Hid (cmpS x y = 0) := Lib.hid (by unfold cmpS; rw [h1, h2]; rfl)
      rw [HR.out]
      have h3 : (x.toList == y.toList) = true := by
        cases h : (x.toList == y.toList) with
        | true => rfl
        | false =>
          exfalso
          have hn : ¬ x.toList < y.toList := fun hl => by rw [(jo.bl_lt _ _).2 hl] at h1; cases h1
          have hm : ¬ y.toList < x.toList := fun hl => by rw [(jo.bl_lt _ _).2 hl] at h2; cases h2
          have he : x.toList = y.toList := by
            by_cases e : x = y
            · rw [e]
            · exact absurd (su.ltS_tri x y hn e) hm
          rw [he] at h
          simp at h
      go_enter Tryz.func242, Tryz.ntmps242
      go_wp2_with fail
      refine C1.mono ?_
      rintro e w1 ⟨rfl, rfl⟩
      go_wp2_with fail
      refine C2.mono ?_
      rintro e w2 ⟨rfl, rfl⟩
      go_wp2_with fail
      go_ret
      exact ⟨rfl, rfl⟩
def encW (x : Wr) : List Value := [.string x.name, .int .i64 x.link]
def cfW (x y : Wr) : Int := cmpS x.name y.name
set_option maxHeartbeats 1600000 in
theorem clo_any (x y : Wr) (w : World) : Calls Tryz.prog 241 #[.agg #[.string x.name, .int .i64 x.link], .agg #[.string y.name, .int .i64 y.link]] w fun e w' => e = .returned (.int .i64 (cfW x y)) ∧ ∃ q os', w' = grow (w.drewN q) os' := by
  have HC := Lib.hid (fun (Y : World) => cmp_any x.name y.name Y)
  have HE : Hid (cfW x y = cmpS x.name y.name) := Lib.hid rfl
  rw [HE.out]
  go_enter Tryz.func241, Tryz.ntmps241
  go_wp2_with fail
  refine (HC.out _).mono ?_
  rintro e w1 ⟨rfl, rfl⟩
  go_wp2_with fail
  go_ret
  exact ⟨rfl, 0, _, by rw [alloc_eq_grow, alloc_eq_grow, grow_grow]; rfl⟩
theorem lays_any (blk off size : Nat) (w : World) : CmpLays Tryz.prog 241 #[] encW 2 cfW blk off size w := fun m os dk hs x y => clo_any x y _
theorem lt_iff (x y : Wr) : ltOf cfW x y = Op.bytesLess x.name.toList y.name.toList := by
  unfold ltOf cfW cmpS
  cases h1 : Op.bytesLess x.name.toList y.name.toList with
  | true => simp
  | false => cases h2 : Op.bytesLess y.name.toList x.name.toList <;> simp
theorem swo : SWO (ltOf cfW) where
  irrefl x := by
    rw [lt_iff]
    cases h : Op.bytesLess x.name.toList x.name.toList with
    | false => rfl
    | true => exact absurd ((jo.bl_lt _ _).1 h) (List.lt_irrefl _)
  trans x y z h1 h2 := by
    rw [lt_iff] at *
    exact (jo.bl_lt _ _).2 (List.lt_trans ((jo.bl_lt _ _).1 h1) ((jo.bl_lt _ _).1 h2))
  ntrans x y z h1 h2 := by
    rw [lt_iff] at *
    cases h : Op.bytesLess x.name.toList z.name.toList with
    | false => rfl
    | true =>
      exfalso
      have h3 := (jo.bl_lt _ _).1 h
      have a1 : ¬ x.name.toList < y.name.toList := fun hl => by rw [(jo.bl_lt _ _).2 hl] at h1; cases h1
      have a2 : ¬ y.name.toList < z.name.toList := fun hl => by rw [(jo.bl_lt _ _).2 hl] at h2; cases h2
      by_cases e : x.name = y.name
      · rw [← e] at a2; exact a2 h3
      · exact a2 (List.lt_trans (su.ltS_tri x.name y.name a1 e) h3)
/-- the cells of a row of Wires -/
def wcells (ws : List Wr) : List Value := cellsOf (ws.length * 2) (wic ws)
theorem wcells_len (ws : List Wr) : (wcells ws).length = ws.length * 2 := cells_len _ _
theorem flat_eq (ws : List Wr) : flatK encW 2 ws.toArray = (wcells ws).toArray := by
  refine ext_get! (by simp [wcells_len]) (fun t ht => ?_)
  have ht : t < ws.length * 2 := by simpa using ht
  rw [get_flatK encW 2 ws.toArray t (by simpa using ht)]
  have hk : t / 2 < ws.length := by omega
  obtain ⟨y, hy⟩ : ∃ y, ws[t / 2]? = some y := ⟨_, List.getElem?_eq_getElem hk⟩
  have h1 : ws.toArray[t / 2]! = y := by
    rw [getElem!_def]
    simp only [List.getElem?_toArray, hy]
  have h2 : (wcells ws).toArray[t]! = wic ws t := by
    rw [getElem!_def]
    simp only [List.getElem?_toArray]
    rw [show (wcells ws)[t]? = some (wic ws t) from cells_get ht]
  rw [h1, h2]
  unfold wic encW
  rw [hy]
  dsimp only
  rcases Nat.mod_two_eq_zero_or_one t with h | h <;> rw [h] <;> rfl
theorem holdsV {w : World} {g : Nat} {cur : Array Value} {e : TypeId} {ts : List Value} (hb : w.heap[g]? = some (.cells cur e (0, 0))) (ht : cur.toList.take ts.length = ts) : Holds id w g 0 ts.toArray := by
  intro j hj
  have hj' : j < ts.length := by simpa using hj
  refine ⟨?_, by simp [World.frozen?, hb]⟩
  have h1 : (cur.toList.take ts.length)[j]? = ts[j]? := by rw [ht]
  rw [List.getElem?_take_of_lt hj'] at h1
  simp only [World.cell?, hb, Nat.zero_add]
  simp only [Option.isSome_none, Bool.false_eq_true, if_false]
  rw [← Array.getElem?_toList, h1]
  simp [hj']
theorem heapV {w : World} {g n : Nat} {os : Array Obj} {cur : Array Value} {e : TypeId} {fr : Nat × Nat} (d : Array Value) (hb : w.heap[g]? = some (.cells cur e fr)) :
    (grow (putRow id (Sort.ahead w n) g 0 d) os).heap[g]? = some (.cells (putCells id 0 d cur) e fr) := by
  have hg : g < w.heap.size := (Array.getElem?_eq_some_iff.1 hb).1
  rw [heap_grow_old _ _ (by simpa using hg)]
  simp [putRow, mapBlock, Sort.ahead, Array.getElem?_modify, hb, onCells]
theorem grownV {w : World} {g n : Nat} {os : Array Obj} (d : Array Value) : w.grownBy (grow (putRow id (Sort.ahead w n) g 0 d) os) (some g) := by
  refine ⟨rfl, rfl, rfl, by simp, fun k hk hne => ?_⟩
  rw [heap_grow_old _ _ (by simpa using hk)]
  have : g ≠ k := fun e => hne (by rw [e])
  simp [putRow, mapBlock, Sort.ahead, Array.getElem?_modify, this]
theorem takeV (cur : Array Value) (ts : List Value) (h : ts.length ≤ cur.size) : (putCells id 0 ts.toArray cur).toList.take ts.length = ts := by
  apply List.ext_getElem?
  intro j
  by_cases hj : j < ts.length
  · rw [List.getElem?_take_of_lt hj, Array.getElem?_toList]
    simp [putCells, hj, show j < cur.size by omega]
  · rw [List.getElem?_take_eq_none (by omega), List.getElem?_eq_none (by omega)]
/-- the order of a sorted row -/
def SortW (ws : List Wr) : Prop := ∀ (i j : Nat) a b, i < j → ws[i]? = some a → ws[j]? = some b → Op.bytesLess b.name.toList a.name.toList = false
set_option maxHeartbeats 1600000 in
theorem srt_any (A : Option Addr) (n c lo : Nat) (ws : List Wr) (w : World) (ho : w.ownsRow lo 139 2 (.slice A n c) n (wcells ws)) (hn : n ≤ 1000) :
    Calls Tryz.prog 240 #[.slice A n c, .func (.func 241) #[] #[]] w fun e w' => e = .returned (.tuple #[]) ∧ ∃ ws' : List Wr, ws'.Perm ws ∧ SortW ws' ∧ w'.ownsRow lo 139 2 (.slice A n c) n (wcells ws') ∧ w.grownBy w' (Value.ownBlock (.slice A n c)) := by
  have hwl : ws.length = n := by
    have := ho.1
    rw [wcells_len] at this
    omega
  rcases ho.2 with ⟨e0, rfl⟩ | ⟨g, cap, cur, e0, hbase, hgb, r1, r2, r3, r4⟩
  · injection e0 with e1 _ e2
    subst e1 e2
    have hw0 : ws = [] := List.length_eq_zero_iff.1 hwl
    subst hw0
    refine (AnyF.slices_SortFunc_none Tryz.sortWire none 0 (.func (.func 241) #[] #[]) w).mono ?_
    rintro e w' ⟨rfl, rfl⟩
    exact ⟨rfl, [], List.Perm.refl _, fun i j a b _ h => by simp at h, ho, ⟨rfl, rfl, rfl, Nat.le_refl _, fun _ _ _ => rfl⟩⟩
  · injection e0 with e1 _ e2
    subst e1 e2
    subst hwl
    have hH : HoldsK encW 2 w g 0 ws.toArray := by
      show Holds id w g 0 (flatK encW 2 ws.toArray)
      rw [flat_eq]
      exact holdsV hgb (by rw [wcells_len]; exact r4)
    have eg : ∀ args w, (callFunc 241 args).run Tryz.prog w = .ok (.enter 241 args) w := enters_of Tryz.func241 (by kernel_rfl) rfl
    have hgl : g < w.heap.size := (Array.getElem?_eq_some_iff.1 hgb).1
    have hcon := AnyQ.slices_SortFunc Tryz.sortWire 2 Tryz.isAgg139 Tryz.sizeOf139 encW (fun _ => rfl) (fun x v hv => by simp [encW] at hv; rcases hv with rfl | rfl <;> rfl) cfW swo 241 #[] g 0 c ws.toArray w eg (lays_any g 0 ws.toArray.size w) hH hgl (by simp; omega)
    rw [show ws.toArray.size = ws.length from by simp] at hcon
    refine Calls.mono (show Calls Tryz.prog 240 _ _ _ from hcon) ?_
    rintro e w' ⟨rfl, d', q, os, hp, hs, rfl⟩
    have hds : d'.size = ws.length := by have := hp.1; simpa using this
    have hdl : d'.toList.length = ws.length := by simpa using hds
    have hpm : d'.toList.Perm ws := by
      have h := hp.2.2
      rw [show ws.length = d'.size from hds.symm, Array.extract_size] at h
      rw [show d'.size = ws.toArray.size from by simp [hds], Array.extract_size] at h
      simpa using h
    have hfl : flatK encW 2 d' = (wcells d'.toList).toArray := by
      have := flat_eq d'.toList
      rwa [Array.toArray_toList] at this
    refine ⟨rfl, d'.toList, hpm, ?_, ?_, ?_⟩
    · intro i j a b hij ha hb
      have hj := (List.getElem?_eq_some_iff.1 hb).1
      have h := hs i j (Nat.zero_le _) hij (by omega)
      rw [lt_iff] at h
      have h1 : d'[j]! = b := by
        rw [getElem!_def, ← Array.getElem?_toList, hb]
      have h2 : d'[i]! = a := by
        rw [getElem!_def, ← Array.getElem?_toList, ha]
      rw [h1, h2] at h
      exact h
    · show (grow (putRow id (Sort.ahead w q) g 0 (flatK encW 2 d')) os).ownsRow _ _ _ _ _ _
      rw [hfl]
      refine ⟨by rw [wcells_len, hdl], .inr ⟨g, c, _, rfl, hbase, heapV _ hgb, r1, r2, by simp [putCells, r3], ?_⟩⟩
      have := takeV cur (wcells d'.toList) (by rw [wcells_len, hdl, r3]; omega)
      rw [wcells_len, hdl] at this
      exact this
    · show w.grownBy (grow (putRow id (Sort.ahead w q) g 0 (flatK encW 2 d')) os) (some g)
      rw [hfl]
      exact grownV _
end Go.Proofs.YtfjgapkjpmkplaaGreat.sf
