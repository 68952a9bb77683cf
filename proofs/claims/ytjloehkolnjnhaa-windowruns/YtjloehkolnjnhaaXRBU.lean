/- Acts of layer 17: opened. -/
import Derived.Test.YtjloehkolnjnhaaXRAI
import Derived.Test.YtjloehkolnjnhaaXRAU
import Derived.Test.YtjloehkolnjnhaaXRBS
import Derived.Test.YtjloehkolnjnhaaXRBJ
set_option linter.unusedSimpArgs false
set_option linter.unusedVariables false
namespace Go.Proofs.Ytjloehkolnjnhaa
section
open Go.RowKit Oct Kvl Bal Go.Maps Go.Sort Go.Shelf
theorem fold_perm {H : Type} : ∀ (l : List (Lit × DataW H)), (l.foldr DataW.insert []).Perm l
  | [] => List.Perm.refl _
  | x :: l => (Go.WideShapes.insert_perm x _).trans ((fold_perm l).cons x)
theorem okW_len {low : Int} {kn : List (Int × PSl)} (h : OkW low kn) : kn.length ≤ 16 := by
  have hs : ∀ x ∈ keysW kn, x ∈ (List.range 16).map (fun i : Nat => low + 1 + (i : Int)) := fun x hx => by
    obtain ⟨y, hy, rfl⟩ := List.mem_map.1 hx
    have := h.rng y hy
    simp [inW] at this
    exact List.mem_map.2 ⟨(y.1 - low - 1).toNat, by simp; omega, by omega⟩
  have := len_of_sub _ _ h.dup hs
  simpa [keysW] using this
/-- What the shelf asks of a map. -/
theorem Wnd.owns {G : Nat → Prop} {w : World} {b m : Nat} {low : Int} {kn : List (Int × PSl)} (h : Wnd G w b m low kn) :
    ∃ (D0 : DataW Unit), w.ownsMap Try.prog 3 (fun _ => some (.nil, [])) m 16 D0 ∧ (intKeys D0).Perm (keysW kn) ∧ Maps.size D0 ≤ 16 := by
  obtain ⟨l, ⟨es, clock, hb, hl, h1, h2⟩, hA⟩ := h.map
  have hk := keys_ofW hA
  have hek := ent_keys hl
  rw [hk] at hek
  have hlen : es.size = kn.length := by
    have := congrArg List.length hek
    simpa [keysW] using this
  have hrd : ∀ x ∈ es.toList, ∃ q : Int, x.key = kv q ∧ Go.WideElems.rd (H := Unit) Try.prog 3 (fun _ => some (.nil, [])) x = some (.int .i64 q, .nil) := fun x hx => by
    have hm : x.key ∈ es.toList.map (·.key) := List.mem_map.2 ⟨x, hx, rfl⟩
    rw [hek] at hm
    obtain ⟨q, hq, hqx⟩ := List.mem_map.1 hm
    obtain ⟨y, hy, hy1⟩ := List.mem_map.1 hq
    have hr := h.ok.rng y hy
    have hlo := h.ok.lo
    simp [inW] at hr
    refine ⟨q, hqx.symm, ?_⟩
    have hwf : (Lit.int .i64 q).wf = true := by
      have := wrap64_wf q
      rw [IntWalk.wrap64_in q ⟨by omega, by omega⟩] at this
      exact this
    unfold Go.WideElems.rd
    rw [← hqx]
    simp [keyOf, mapKey, Try.underlying3, kv, hwf]
  have hlen16 := okW_len h.ok
  refine ⟨_, ⟨es, clock, hb, ⟨by rw [hlen]; exact Nat.le_trans hlen16 (by decide), ⟨h1, h2, ?_⟩, fun x hx => by obtain ⟨q, _, hq⟩ := hrd x hx; exact ⟨_, hq⟩⟩, by rw [hlen]; exact hlen16, rfl⟩, ?_, ?_⟩
  · rw [hek]
    exact List.Pairwise.map _ (fun a b hab e => hab (by injection e)) h.ok.dup
  · show ((List.foldr DataW.insert [] _).map _).Perm _
    refine ((fold_perm _).map _).trans ?_
    rw [List.map_map]
    have : es.toList.map ((fun p : Lit × DataW Unit => Go.intOf p.1) ∘ Go.WideElems.rg Try.prog 3 (fun _ => some (.nil, []))) = keysW kn := by
      have e2 : es.toList.map ((fun p : Lit × DataW Unit => Go.intOf p.1) ∘ Go.WideElems.rg Try.prog 3 (fun _ => some (.nil, []))) = (es.toList.map (·.key)).map (fun v => match v with | .int _ n => n | _ => 0) := by
        rw [List.map_map]
        refine List.map_congr_left fun x hx => ?_
        obtain ⟨q, hq1, hq2⟩ := hrd x hx
        simp only [Function.comp, Go.WideElems.rg, hq2, hq1, kv]
        rfl
      rw [e2, hek, List.map_map]
      have : ((fun v : Value => match v with | .int _ n => n | _ => 0) ∘ kv) = id := by funext q; rfl
      rw [this, List.map_id]
    rw [this]
  · show (List.foldr DataW.insert [] _).length ≤ 16
    rw [(fold_perm _).length_eq, List.length_map, Array.length_toList, hlen]
    exact hlen16
set_option maxRecDepth 100000 in
set_option maxHeartbeats 2000000 in
theorem slotsW_any {G : Nat → Prop} {b m : Nat} {low : Int} {kn : List (Int × PSl)} (w : World) (h : Wnd G w b m low kn) :
    Calls Try.prog 16 #[.pointer (some ⟨b, 0, none⟩)] w fun e w' => ∃ (v : Value) (ss : List Int), e = .returned v ∧ ss.Perm (keysW kn) ∧
      w'.ownsRow w.heap.size 3 1 v ss.length ((ss.mergeSort (fun x y => decide (x ≤ y))).map encZ) ∧ Below w.heap.size w w' := by
  have c1 := h.row.cell (j := 1) rfl
  obtain ⟨D0, hown, hperm, hsize⟩ := h.owns
  clear h
  refine (callsIn_wide (n := 6)).1 ?_
  have hbl := hown.lt
  have hmax : Maps.size D0 ≤ maxLen := Nat.le_trans hsize (by decide)
  have hbytes : Maps.size D0 * 8 ≤ 140737488355328 := by omega
  have hseq : SeqGives Fence.wide 2 Try.prog 49 #[.pointer (some ⟨w.heap.size, 0, none⟩)] encZ (fun ss => ss.Perm (intKeys D0)) (Maps.size D0) (w.alloc (.cells #[.map (some m)] 67)) :=
    AnyZI.keys_gives (ρ := keysW_l_ren) { keysW_l with } Fence.wide _ trivial rfl (by omega) w.heap.size m 16 D0 _ (by simp) (by simp) (by
      obtain ⟨es, clock, hb, Ft, hs, hD⟩ := hown
      exact ⟨es, clock, (Below.heap_alloc _ _ m hbl).trans hb, Ft, hs, hD⟩)
  have cK : ∀ mb W, CallsIn Fence.wide 5 Try.prog 36 #[.map mb] W fun e w' => e = .returned (.func (.func 49) #[] #[.pointer (some ⟨W.heap.size, 0, none⟩)]) ∧ w' = W.alloc (.cells #[.map mb] 67) := fun mb W => AnyZI.keys_in keysW_l Fence.wide 5 trivial rfl mb W
  have cS := AnyZI.sorted_in sortedW_l Fence.wide 5 trivial trivial trivial trivial rfl (by omega) (sortsW _) (enters_of Try.func48 (by kernel_rfl) rfl) 49 #[.pointer (some ⟨w.heap.size, 0, none⟩)] trivial (enters_of Try.func49 (by kernel_rfl) rfl) _ _ hmax hbytes _ hseq
  change CallsIn _ _ Try.prog 35 _ _ _ at cS
  have hfK : Fence.wide.fn 36 := trivial
  have hfS : Fence.wide.fn 35 := trivial
  refine callsIn_of_wp Try.func16 rfl trivial ?_ rfl
  simp only [Try.ntmps16, List.size_toArray, List.length_cons, List.length_nil, Nat.reduceAdd, Nat.reduceSub, Array.replicate_succ, Array.replicate_zero, List.push_toArray, List.append_toArray, List.nil_append, List.cons_append]
  gi_wp2_with (first
    | (gi_at_call 36; refine (cK _ _).mono ?_; rintro e w' ⟨rfl, rfl⟩)
    | (gi_at_call 35; refine cS.mono ?_; rintro e w' ⟨v, ss, rfl, hS, hrow, hnil, hb⟩))
  go_ret
  exact ⟨v, ss, rfl, hS.trans hperm, ownsRow_base_a hrow (by simp), ((Below.refl _ w).alloc (Nat.le_refl _) _).trans (hb.mono (by simp))⟩
end
section
open Go.ChangeShapes Go.WideShapes Go.ChangeAt Go.RowKit Oct
def bWA (a : PWAct) : Nat := bP a.2
/-- What is known of an act that came in. -/
def szWA (a : PWAct) : Prop := szP a.2 ∧ -9223372036854775808 ≤ a.2.1 ∧ a.2.1 ≤ 9223372036854775807
theorem of9W {α : Type} {l : List α} (h : l.length = 9) : ∃ c0 c1 c2 c3 c4 c5 c6 c7 c8, l = [c0, c1, c2, c3, c4, c5, c6, c7, c8] := by match l, h with | [c0, c1, c2, c3, c4, c5, c6, c7, c8], _ => exact ⟨c0, c1, c2, c3, c4, c5, c6, c7, c8, rfl⟩
theorem of2W {α : Type} {l : List α} (h : l.length = 2) : ∃ c0 c1, l = [c0, c1] := by match l, h with | [c0, c1], _ => exact ⟨c0, c1, rfl⟩
theorem weightsW_arg {H : Type} {P : Program} {ts : List TypeId} {ds : List (DataW H)} (h : (DataW.weightsEach P ts ds).all (· ≤ reachBytes) = true) {j : Nat} {t : TypeId} {d : DataW H} (ht : ts[j]? = some t) (hd : ds[j]? = some d) : ∀ n ∈ d.weights P t, n ≤ reachBytes := fun n hn => by
  have := List.all_eq_true.1 h _ (DataW.weights_mem_each ht hd n hn)
  simpa using this
section
variable {H : Type} {enc : TypeId × Value → H} {w : World} {base : Nat} {held : Bool}
theorem cells_prepW : Try.prog.cellsOf 39 = 8 := by kernel_rfl
set_option maxRecDepth 10000 in
theorem opn_wact : Opn enc Try.prog w base held 41 (RWAct Any w) bWA szWA := by
  intro fuel cs x h
  obtain ⟨xs, n, rfl, rfl, hl, hxl, hf⟩ := DataW.trod_struct Try.underlying41 h
  have hxl : xs.length = 2 := hxl
  rw [show Try.prog.cellsOf 41 = 9 by kernel_rfl] at hl
  obtain ⟨c0, c1, c2, c3, c4, c5, c6, c7, c8, rfl⟩ := of9W hl
  obtain ⟨x0, x1, rfl⟩ := of2W hxl
  have h0 := fld hf 0 rfl rfl rfl cells_int (cs' := [c0]) rfl rfl
  have h1 := fld hf 1 rfl rfl rfl cells_prepW (cs' := [c1, c2, c3, c4, c5, c6, c7, c8]) rfl rfl
  obtain ⟨y0, g0, e0, r0⟩ := DataW.trod_int Try.underlying3 h0
  obtain ⟨y1, ⟨o, g, c, e1, t1, t2, t3⟩, b1, s1⟩ := opn_prep _ _ _ h1
  obtain ⟨xs', n', ex, en, hl', hxl', hf'⟩ := DataW.trod_struct Try.underlying39 h1
  have hxl' : xs'.length = 4 := hxl'
  obtain ⟨z0, z1, z2, z3, rfl⟩ := of4 hxl'
  have h10 := fld hf' 0 rfl rfl rfl cells_int (cs' := [c1]) rfl rfl
  obtain ⟨q0, gq, eq, rq⟩ := DataW.trod_int Try.underlying3 h10
  cases g0
  cases e1
  have hq : q0 = y1.1 := by
    injection gq with gq
    injection gq with _ gq
    exact gq.symm
  subst hq
  have hb := bounds_i64 rq
  refine ⟨(y0, y1), ⟨_, _, _, rfl, t1, t2, t3⟩, ?_, fun hn => ⟨s1 (weights_fld Try.underlying41 hn 1 rfl rfl rfl), hb⟩⟩
  simp only [bWA, Rows.uptoBulk, Rows.uptoBulkAll, List.map_cons, List.map_nil]
  omega
theorem opn_actsW : Opn enc Try.prog w base held 22 (fun cs ys => ∃ v, cs = [v] ∧ RL RWAct 9 Any w v ys) (bL bWA) (szL 120 szWA) := opn_list Try.underlying22 (by kernel_rfl) (by kernel_rfl) (by decide) opn_wact
theorem open_actsW {v : Value} {d : DataW H} {p : List MemPlace} (hone : v.cells.toList = [v]) (h : DataW.Trod enc Try.prog w base (fun _ => true) held 22 v d p) :
    ∃ ys : List PWAct, RL RWAct 9 Any w v ys ∧ bL bWA ys ≤ Rows.uptoBulk d ∧ ((∀ n ∈ d.weights Try.prog 22, n ≤ reachBytes) → szL 120 szWA ys) := by
  obtain ⟨fuel, hf⟩ := h
  obtain ⟨ys, ⟨u, e, h1⟩, h2, h3⟩ := opn_actsW fuel _ _ hf
  rw [hone] at e
  cases e
  exact ⟨ys, h1, h2, h3⟩
end
end
end Go.Proofs.Ytjloehkolnjnhaa
