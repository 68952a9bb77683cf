/- Windows in memory: Slots. -/
import Derived.Test.YtjloehkolnjnhaaXUAC
import Derived.Test.YtjloehkolnjnhaaXUAW
set_option linter.unusedSimpArgs false
set_option linter.unusedVariables false
namespace Go.Proofs.Ytjloehkolnjnhaa
open Go.RowKit Oct Kvl Bal Go.Maps Go.Sort Go.Shelf
theorem fold_perm {H : Type} : ∀ (l : List (Lit × DataW H)), (l.foldr DataW.insert []).Perm l
  | [] => List.Perm.refl _
  | x :: l => (Go.WideShapes.insert_perm x _).trans ((fold_perm l).cons x)
theorem okW_len {low : Int} {kn : List (Int × PSl)} (h : OkW low kn) : kn.length ≤ 16 := by
  have hs : ∀ x ∈ keysW kn, x ∈ (List.range 16).map (fun i : Nat => low + 1 + (i : Int)) := fun x hx => by
    obtain ⟨y, hy, rfl⟩ := List.mem_map.1 hx
    have := h.rng y hy
    simp [inW] at this
    exact List.mem_map.2 ⟨(y.1 - low - 1).toNat, by simp; omega, by omega⟩
  have := len_of_sub _ _ h.dup hs
  simpa [keysW] using this
/-- What the shelf asks of a map. -/
theorem Wnd.owns {G : Nat → Prop} {w : World} {b m : Nat} {low : Int} {kn : List (Int × PSl)} (h : Wnd G w b m low kn) :
    ∃ (D0 : DataW Unit), w.ownsMap Try.prog 3 (fun _ => some (.nil, [])) m 16 D0 ∧ (intKeys D0).Perm (keysW kn) ∧ Maps.size D0 ≤ 16 := by
  obtain ⟨l, ⟨es, clock, hb, hl, h1, h2⟩, hA⟩ := h.map
  have hk := keys_ofW hA
  have hek := ent_keys hl
  rw [hk] at hek
  have hlen : es.size = kn.length := by
    have := congrArg List.length hek
    simpa [keysW] using this
  have hrd : ∀ x ∈ es.toList, ∃ q : Int, x.key = kv q ∧ Go.WideElems.rd (H := Unit) Try.prog 3 (fun _ => some (.nil, [])) x = some (.int .i64 q, .nil) := fun x hx => by
    have hm : x.key ∈ es.toList.map (·.key) := List.mem_map.2 ⟨x, hx, rfl⟩
    rw [hek] at hm
    obtain ⟨q, hq, hqx⟩ := List.mem_map.1 hm
    obtain ⟨y, hy, hy1⟩ := List.mem_map.1 hq
    have hr := h.ok.rng y hy
    have hlo := h.ok.lo
    simp [inW] at hr
    refine ⟨q, hqx.symm, ?_⟩
    have hwf : (Lit.int .i64 q).wf = true := by
      have := wrap64_wf q
      rw [IntWalk.wrap64_in q ⟨by omega, by omega⟩] at this
      exact this
    unfold Go.WideElems.rd
    rw [← hqx]
    simp [keyOf, mapKey, Try.underlying3, kv, hwf]
  have hlen16 := okW_len h.ok
  refine ⟨_, ⟨es, clock, hb, ⟨by rw [hlen]; exact Nat.le_trans hlen16 (by decide), ⟨h1, h2, ?_⟩, fun x hx => by obtain ⟨q, _, hq⟩ := hrd x hx; exact ⟨_, hq⟩⟩, by rw [hlen]; exact hlen16, rfl⟩, ?_, ?_⟩
  · rw [hek]
    exact List.Pairwise.map _ (fun a b hab e => hab (by injection e)) h.ok.dup
  · show ((List.foldr DataW.insert [] _).map _).Perm _
    refine ((fold_perm _).map _).trans ?_
    rw [List.map_map]
    have : es.toList.map ((fun p : Lit × DataW Unit => Go.intOf p.1) ∘ Go.WideElems.rg Try.prog 3 (fun _ => some (.nil, []))) = keysW kn := by
      have e2 : es.toList.map ((fun p : Lit × DataW Unit => Go.intOf p.1) ∘ Go.WideElems.rg Try.prog 3 (fun _ => some (.nil, []))) = (es.toList.map (·.key)).map (fun v => match v with | .int _ n => n | _ => 0) := by
        rw [List.map_map]
        refine List.map_congr_left fun x hx => ?_
        obtain ⟨q, hq1, hq2⟩ := hrd x hx
        simp only [Function.comp, Go.WideElems.rg, hq2, hq1, kv]
        rfl
      rw [e2, hek, List.map_map]
      have : ((fun v : Value => match v with | .int _ n => n | _ => 0) ∘ kv) = id := by funext q; rfl
      rw [this, List.map_id]
    rw [this]
  · show (List.foldr DataW.insert [] _).length ≤ 16
    rw [(fold_perm _).length_eq, List.length_map, Array.length_toList, hlen]
    exact hlen16
set_option maxRecDepth 100000 in
set_option maxHeartbeats 2000000 in
theorem slotsW_any {G : Nat → Prop} {b m : Nat} {low : Int} {kn : List (Int × PSl)} (w : World) (h : Wnd G w b m low kn) :
    Calls Try.prog 16 #[.pointer (some ⟨b, 0, none⟩)] w fun e w' => ∃ (v : Value) (ss : List Int), e = .returned v ∧ ss.Perm (keysW kn) ∧
      w'.ownsRow w.heap.size 3 1 v ss.length ((ss.mergeSort (fun x y => decide (x ≤ y))).map encZ) ∧ Below w.heap.size w w' := by
  have c1 := h.row.cell (j := 1) rfl
  obtain ⟨D0, hown, hperm, hsize⟩ := h.owns
  clear h
  refine (callsIn_wide (n := 6)).1 ?_
  have hbl := hown.lt
  have hmax : Maps.size D0 ≤ maxLen := Nat.le_trans hsize (by decide)
  have hbytes : Maps.size D0 * 8 ≤ 140737488355328 := by omega
  have hseq : SeqGives Fence.wide 2 Try.prog 49 #[.pointer (some ⟨w.heap.size, 0, none⟩)] encZ (fun ss => ss.Perm (intKeys D0)) (Maps.size D0) (w.alloc (.cells #[.map (some m)] 67)) :=
    AnyZI.keys_gives (ρ := keysW_l_ren) { keysW_l with } Fence.wide _ trivial rfl (by omega) w.heap.size m 16 D0 _ (by simp) (by simp) (by
      obtain ⟨es, clock, hb, Ft, hs, hD⟩ := hown
      exact ⟨es, clock, (Below.heap_alloc _ _ m hbl).trans hb, Ft, hs, hD⟩)
  have cK : ∀ mb W, CallsIn Fence.wide 5 Try.prog 36 #[.map mb] W fun e w' => e = .returned (.func (.func 49) #[] #[.pointer (some ⟨W.heap.size, 0, none⟩)]) ∧ w' = W.alloc (.cells #[.map mb] 67) := fun mb W => AnyZI.keys_in keysW_l Fence.wide 5 trivial rfl mb W
  have cS := AnyZI.sorted_in sortedW_l Fence.wide 5 trivial trivial trivial trivial rfl (by omega) (sortsW _) (enters_of Try.func48 (by kernel_rfl) rfl) 49 #[.pointer (some ⟨w.heap.size, 0, none⟩)] trivial (enters_of Try.func49 (by kernel_rfl) rfl) _ _ hmax hbytes _ hseq
  change CallsIn _ _ Try.prog 35 _ _ _ at cS
  have hfK : Fence.wide.fn 36 := trivial
  have hfS : Fence.wide.fn 35 := trivial
  refine callsIn_of_wp Try.func16 rfl trivial ?_ rfl
  simp only [Try.ntmps16, List.size_toArray, List.length_cons, List.length_nil, Nat.reduceAdd, Nat.reduceSub, Array.replicate_succ, Array.replicate_zero, List.push_toArray, List.append_toArray, List.nil_append, List.cons_append]
  gi_wp2_with (first
    | (gi_at_call 36; refine (cK _ _).mono ?_; rintro e w' ⟨rfl, rfl⟩)
    | (gi_at_call 35; refine cS.mono ?_; rintro e w' ⟨v, ss, rfl, hS, hrow, hnil, hb⟩))
  go_ret
  exact ⟨v, ss, rfl, hS.trans hperm, ownsRow_base_a hrow (by simp), ((Below.refl _ w).alloc (Nat.le_refl _) _).trans (hb.mono (by simp))⟩
end Go.Proofs.Ytjloehkolnjnhaa
