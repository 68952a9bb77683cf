/- The document's copy of leases. -/
import Derived.Test.YteafgdidjdfiiaaGreatJ05
import Derived.Test.YteafgdidjdfiiaaGreatJ06
import Derived.Test.YteafgdidjdfiiaaGreatJ13
import Derived.Test.YteafgdidjdfiiaaGreatJ15
import Derived.Test.YteafgdidjdfiiaaGreatJ10
import Derived.Test.YteafgdidjdfiiaaGreatJ02
import Derived.Test.YteafgdidjdfiiaaGreatJ03
section
set_option linter.unusedVariables false
set_option linter.unusedSimpArgs false
namespace Go.Proofs.YteafgdidjdfiiaaGreat
open Go.RowKit Oct Kvl

theorem forms9k {B : Nat} {w : World} {r : List Value} {a : PApp} (h : OApp B w r a) : ∃ ae ce al cl an cn, r = [.int .i64 a.1, .slice ae a.2.1.length ce, .slice al a.2.2.1.length cl, .slice an a.2.2.2.length cn] := by
  obtain ⟨ve, vl, vs, rfl, h1, h2, h3⟩ := h
  obtain ⟨ae, ce, rfl⟩ := h1.fm mov_oent
  obtain ⟨al, cl, rfl⟩ := h2.fm mov_olea
  obtain ⟨an, cn, rfl⟩ := h3.fm mov_oses
  exact ⟨_, _, _, _, _, _, rfl⟩
theorem rgt_szk {a : PApp} (h : rgtA a) : szA a := by
  obtain ⟨_, ⟨e1, _, e3⟩, ⟨l1, _, l3⟩, h4⟩ := h
  have h5 := rgn_len h4
  refine ⟨⟨by omega, fun x hx => ?_⟩, ⟨by omega, fun x hx => ?_⟩, ⟨by omega, fun x hx => ?_⟩⟩
  · obtain ⟨n1, n2, n3⟩ := e3 x hx
    exact ⟨by unfold szT; omega, by unfold szT; omega⟩
  · obtain ⟨⟨n1, n2⟩, _⟩ := l3 x hx
    unfold szS szT
    omega
  · obtain ⟨_, _, _, n7⟩ := chk_all h4 _ hx
    unfold szN szT
    omega
theorem runA_rgtk : ∀ (l : List PReq) (a : PApp), wfN a.2.2.2 → rgtA a → rgtA (runA a l)
  | [], a, _, h => h
  | r :: l, a, hw, h => runA_rgtk l (applyA a r).1 (applyA_wf hw) (applyA_rgt hw h)
theorem runA_app : ∀ (l m : List PReq) (a : PApp), runA a (l ++ m) = runA (runA a l) m
  | [], m, a => rfl
  | r :: l, m, a => runA_app l m (applyA a r).1
def z0A : PApp := (0, [], [], [])
theorem rgt0k : rgtA z0A := by unfold z0A rgtA; exact ⟨by decide, by decide, by decide, trivial⟩
/-- The state behind the first k. -/
def stA (ys : List PReq) (k : Nat) : PApp := runA z0A (ys.take k)
theorem stA_snoc {ys : List PReq} {k : Nat} {y : PReq} (h : ys[k]? = some y) : stA ys (k + 1) = (applyA (stA ys k) y).1 := by
  unfold stA
  rw [List.take_add_one, h, Option.toList_some, runA_app]
  rfl
theorem stA_rgt (ys : List PReq) (k : Nat) : rgtA (stA ys k) := runA_rgtk _ z0A (fun e he => by cases he) rgt0k
theorem stA_rest (ys : List PReq) (k : Nat) : runA (stA ys k) (ys.drop k) = runA z0A ys := by
  unfold stA
  rw [← runA_app, List.take_append_drop]
theorem stA_all (ys : List PReq) : stA ys ys.length = runA z0A ys := by unfold stA; rw [List.take_length]
/-- Their bytes, in order. -/
def encL (ys : List PReq) : List (List Int) := (List.range ys.length).map fun i => snB (stA ys (i + 1))
theorem encL_len (ys : List PReq) : (encL ys).length = ys.length := by simp [encL]
theorem encL_at {ys : List PReq} {k : Nat} (h : k < ys.length) : (encL ys)[k]? = some (snB (stA ys (k + 1))) := by simp [encL, h]
theorem sn_len {A : PApp} (h3 : rgtA A) : (snB A).length ≤ 30000 := by
  have e1 : snB A = wrA A := if_pos h3
  rw [e1, wrA_eq]
  have n1 := outI_len A.1
  have n2 := outI_len (A.2.1.length : Int)
  have n3 := outI_len (A.2.2.1.length : Int)
  have n4 := outI_len (A.2.2.2.length : Int)
  have k1 := wrN_len (c := cEn 16 64) A.2.1 (fun e he => wrE_len (h3.2.1.2.2 e he))
  have k2 := wrN_len (c := cLe 16) A.2.2.1 (fun e he => wrL_len (h3.2.2.1.2.2 e he))
  have k3 := wrN_len (c := cSe 64) A.2.2.2 (fun e he => wrS_len (chk_all h3.2.2.2 e he))
  have m1 := h3.2.1.1
  have m2 := h3.2.2.1.1
  have m3 := rgn_len h3.2.2.2
  simp only [List.length_append]
  omega
theorem packL_len5 : ∀ (ll : List (List Int)), (∀ l ∈ ll, l.length ≤ 30000) → (packL ll).length ≤ 30005 * ll.length ∧ tot ll ≤ 30001 * ll.length
  | [], _ => by simp [packL, tot]
  | l :: r, h => by
    have h1 := packL_len5 r (fun x hx => h x (by simp [hx]))
    have h2 := h l (by simp)
    have h3 := enc_len5 (l.length : Int) (by omega) (by omega)
    simp only [packL, tot, List.length_append, List.length_cons]
    omega
theorem encL_sz (ys : List PReq) (h : ys.length ≤ 60) (k : Nat) : (packL ((encL ys).take k)).length ≤ 2000000 ∧ tot ((encL ys).take k) ≤ 2000000 := by
  have h1 := packL_len5 ((encL ys).take k) (fun l hl => by
    have hm := List.mem_of_mem_take hl
    unfold encL at hm
    obtain ⟨i, _, rfl⟩ := List.mem_map.1 hm
    exact sn_len (stA_rgt ys (i + 1)))
  have h2 : ((encL ys).take k).length ≤ 60 := by rw [List.length_take, encL_len]; omega
  omega
/-- Opening records with a torn one behind, by their bytes' length. -/
theorem op_tornP {ll : List (List Int)} {t : List Int} (hl : Byts ll) (hb : Byt t) (ht : tot ll + t.length + 1 ≤ 1000000000) (hp : (packL ll).length ≤ 4194304) (k : Nat) (hk : k ≤ (frm t).length) :
    ∃ G, ll.length ≤ G ∧ G ≤ ll.length + 1 ∧ opT (whD (packL ll ++ (frm t).take k)) = (whD (packL ((ll ++ [t]).take G)), 0) ∧ opL (whD (packL ll ++ (frm t).take k)) = (ll ++ [t]).take G := by
  have hs := scn_torn hl hb ht k
  by_cases h : k < (frm t).length
  · rw [if_pos h] at hs
    refine ⟨ll.length, Nat.le_refl _, by omega, ?_⟩
    rw [List.take_left]
    have e : opT (whD (packL ll ++ (frm t).take k)) = (whD (packL ll), 0) := by
      unfold opT
      rw [if_neg (by simp [whD])]
      show (if (scn (packL ll ++ (frm t).take k)).2 < (packL ll ++ (frm t).take k).length then reD (whD (packL ll ++ (frm t).take k)) ((packL ll ++ (frm t).take k).take (scn (packL ll ++ (frm t).take k)).2) else (whD (packL ll ++ (frm t).take k), 0)) = _
      rw [hs]
      dsimp only
      rw [List.take_left]
      split
      · exact wh_re (by omega)
      · rename_i h2
        rw [List.length_append] at h2
        have : (frm t).take k = [] := List.eq_nil_of_length_eq_zero (by omega)
        rw [this, List.append_nil]
    refine ⟨e, ?_⟩
    unfold opL
    rw [e, if_pos rfl]
    show (scn (packL ll ++ (frm t).take k)).1 = ll
    rw [hs]
  · rw [if_neg h] at hs
    refine ⟨ll.length + 1, by omega, Nat.le_refl _, ?_⟩
    have e1 : (ll ++ [t]).take (ll.length + 1) = ll ++ [t] := List.take_of_length_le (by simp)
    have e2 : packL ll ++ (frm t).take k = packL (ll ++ [t]) := by rw [packL_frm, List.take_of_length_le (by omega)]
    rw [e1, e2]
    exact op_whole (fun x hx => by
      rcases List.mem_append.1 hx with h | h
      · exact hl x h
      · simp at h; subst h; exact hb) (by rw [tot_app]; simp only [tot]; omega)
/-- Where the first loop stands: k states were made; the disk is to break at the record number A. -/
def Kst (LL : List (List Int)) (A : Nat) (t : Int) (k T : Nat) (d : PDk) : Prop :=
  (k ≤ A ∧ T = k ∧ d = tkA (packL (LL.take k)) ((A : Int) - k) t) ∨ (A < k ∧ T = A ∧ ∃ x, LL[A]? = some x ∧ d = tkB (packL (LL.take A) ++ (frm x).take (wit t (frm x).length).toNat))
theorem kst_end {LL : List (List Int)} {A : Nat} {t : Int} {T : Nat} {d : PDk} (h : Kst LL A t LL.length T d) (hl : Byts LL) (hp : ∀ k, (packL (LL.take k)).length ≤ 2000000 ∧ tot (LL.take k) ≤ 2000000) : Kps LL T d := by
  rcases h with ⟨h1, rfl, rfl⟩ | ⟨h1, rfl, x, hx, rfl⟩
  · obtain ⟨e1, e2⟩ := op_whole (byts_take hl LL.length) (by have := (hp LL.length).2; omega)
    exact ⟨LL.length, Nat.le_refl _, by omega, Nat.le_refl _, by rw [me_tkA]; exact e1, by rw [me_tkA]; exact e2⟩
  · have hT := (List.getElem?_eq_some_iff.1 hx).1
    have hsn := take_snoc' LL T x hx
    have htt : tot (LL.take T) + x.length + 1 ≤ 2000000 := by
      have h1 := (hp (T + 1)).2
      rw [hsn, tot_app] at h1
      simp only [tot] at h1
      omega
    have hwd := wit_bd (n := t) (m := ((frm x).length : Int)) (by omega)
    obtain ⟨G, g1, g2, g3, g4⟩ := op_tornP (byts_take hl T) (hl x (List.mem_of_getElem? hx)) (by omega) (by have := (hp T).1; omega) (wit t (frm x).length).toNat (by omega)
    have hlen : (LL.take T).length = T := by rw [List.length_take]; omega
    rw [hlen] at g1 g2
    have e : (LL.take T ++ [x]).take G = LL.take G := by rw [← hsn, List.take_take, Nat.min_eq_left (by omega)]
    rw [e] at g3 g4
    exact ⟨G, g1, g2, by omega, by rw [me_tkB]; exact g3, by rw [me_tkB]; exact g4⟩
/-- One more state: what becomes of the disk, of the count. -/
theorem kst_step {LL : List (List Int)} {A : Nat} {t : Int} {k T : Nat} {d : PDk} {x : List Int} (h : Kst LL A t k T d) (hx : LL[k]? = some x) (hp : ∀ k, (packL (LL.take k)).length ≤ 2000000 ∧ tot (LL.take k) ≤ 2000000) :
    ((apD d (frm x)).2 = 0 ∧ (apD d (frm x)).1.dead = false ∧ Kst LL A t (k + 1) (T + 1) (apD d (frm x)).1) ∨ ((apD d (frm x)).2 = 115 ∧ Kst LL A t (k + 1) T (apD d (frm x)).1) := by
  have hsn : packL (LL.take (k + 1)) = packL (LL.take k) ++ frm x := by rw [take_snoc' LL k x hx, packL_frm]
  have hfit : (packL (LL.take k)).length + (frm x).length ≤ 4194304 := by
    have := (hp (k + 1)).1
    rw [hsn, List.length_append] at this
    omega
  rcases h with ⟨h1, rfl, rfl⟩ | ⟨h1, rfl, y, hy, rfl⟩
  · by_cases hA : T < A
    · rw [tk_tick hfit (by omega)]
      refine .inl ⟨rfl, rfl, .inl ⟨by omega, rfl, ?_⟩⟩
      show tkA (packL (LL.take T) ++ frm x) ((A : Int) - T - 1) t = _
      rw [hsn, show (A : Int) - ((T + 1 : Nat) : Int) = (A : Int) - T - 1 by omega]
    · obtain rfl : T = A := by omega
      rw [show ((T : Int) - (T : Int)) = 0 by omega, tk_tear hfit]
      exact .inr ⟨rfl, .inr ⟨by omega, rfl, x, hx, rfl⟩⟩
  · rw [tk_dead]
    exact .inr ⟨rfl, .inr ⟨by omega, rfl, y, hy, rfl⟩⟩

theorem Spt.frK {w : World} {v v' : Value} {B : Nat} (h : Spt w v v') (hf : Fr B v) (hB : B ≤ w.heap.size) : Fr B v' := by
  rcases h with h | h
  · exact fun k hk => hf k (h ▸ hk)
  · exact h.mono hB
/-! States in memory whose texts lie where Y holds. -/
def RAY (Y : Nat → Prop) (G : Nat → Prop) (w : World) (r : List Value) (a : PApp) : Prop := RApp (fun k => G k ∧ Y k) w r a
theorem mov_ray (Y : Nat → Prop) : Mov (RAY Y) := fun G G' w w' r a h hs hm => mov_app _ _ _ _ _ _ h hs (fun k hk hlt => ⟨(hm k hk.1 hlt).1, (hm k hk.1 hlt).2, hk.2⟩)
theorem OApp.appF {B : Nat} {w : World} {r : List Value} {a : PApp} (h : OApp B w r a) : RApp (From B) w r a := by
  obtain ⟨ve, vl, vs, e, h1, h2, h3⟩ := h
  exact ⟨ve, vl, vs, e, (h1.rl mov_oent).ent, (h2.rl mov_olea).lea, (h3.rl mov_oses).ses⟩
theorem LB.turnA {Y Y' : Nat → Prop} {B : Nat} {w w' : World} {v : Value} {ys : List PApp} (h : LB (RAY Y) 27 4 B w v ys) (hs : w.heap.size ≤ w'.heap.size) (hv : ∀ k, v.ownBlock = some k → k < w.heap.size → w'.heap[k]? = w.heap[k]?)
    (hm : ∀ k, Y k → k < w.heap.size → w'.heap[k]? = w.heap[k]? ∧ Y' k) : LB (RAY Y') 27 4 B w' v ys := by
  obtain ⟨rows, h0, ⟨h1, h2⟩, h3, h4⟩ := h
  refine ⟨rows, h0, ⟨h1, ?_⟩, h3, h4.mono fun r a hr => mov_app _ _ _ _ _ _ hr hs (fun k hk hlt => ⟨(hm k hk.2 hlt).1, hk.1, (hm k hk.2 hlt).2⟩)⟩
  rcases h2 with h2 | ⟨g, cap, cur, rfl, h5, hg, h6⟩
  · exact .inl h2
  · refine .inr ⟨g, cap, cur, rfl, h5, ?_, h6⟩
    rw [hv g rfl ((Array.getElem?_eq_some_iff.1 hg).1)]
    exact hg
section
variable {P : Program}
/-- One more record, and where the row then lies. -/
theorem wl_pushK {α : Type} {R : (Nat → Prop) → World → List Value → α → Prop} (hR : Mov R) {w : World} {ops : Array Oper} {rest : List Oper} {o : Oper} {a : Act} {Q : Exit → Act → World → Prop} (hgd : o.guard = none) (s x : Operand) (t : TypeId)
    (ho : o.op = .call { callee := .builtin .append, args := #[s, x], argTypes := #[t, t] }) (e : TypeId) (k bytes : Nat) (z : Value) (ht : P.underlying t = some (.slice e)) (hi : (P.info? e).map (fun i => (i.zero, i.size, i.bytes)) = some (some z, k, bytes))
    (hzs : z.cells.size = k) (hk : 0 < k) (B : Nat) (v : Value) (ys : List α) (hs : a.eval s = v) (hL : LB R e k B w v ys) (r : List Value) (y : α) (C : Nat) (hr : R (From C) w r y) (hrl : r.length = k) (h1 : ∀ u ∈ r, u.oneCell' = true)
    (hC : B ≤ C) (hCv : ∀ g, v.ownBlock = some g → g < C) (hx : a.eval x = .slice (some ⟨w.heap.size, 0, none⟩) 1 1) (hB : B ≤ w.heap.size)
    (hb : (ys.length + 1) * bytes ≤ 140737488355328) (hb0 : 1 ≤ bytes)
    (h : ∀ v' w', LB R e k B w' v' (ys ++ [y]) → w.grownBy w' v.ownBlock → (v'.ownBlock = v.ownBlock ∨ ∀ g, v'.ownBlock = some g → w.heap.size ≤ g) → wpList P ops Q rest (a.put o.dst v') w') : wpList P ops Q (o :: rest) a (w.alloc (.cells r.toArray e)) := by
  obtain ⟨i0, hi, hz0, hz1, hz2⟩ := info_parts hi
  obtain ⟨rows, h0, hown, hfr, hall⟩ := hL
  have hlen := hall.len
  have hbel := below_alloc w (.cells r.toArray e)
  have hown1 : (w.alloc (.cells r.toArray e)).ownsRow 0 e k v rows.length rows.flatten := World.ownsRow.kept (row := none) hown ⟨hbel.os, hbel.tape, hbel.output, hbel.size, fun k hk _ => hbel.block k hk⟩ (by cases hv : v.ownBlock <;> simp)
  have hmul : ys.length + 1 ≤ (ys.length + 1) * bytes := Nat.le_mul_of_pos_right _ hb0
  refine wpList_append_lies (w.alloc (.cells r.toArray e)) hgd s x t ho 0 e i0 z k bytes ht hi hz0 hz1 hz2 hzs hk v rows.length rows.flatten hs hown1 ⟨w.heap.size, 0, none⟩ 1 1 r hx (by omega)
    (fun j u hj => by
      rw [Addr.add_mid, Nat.zero_add]
      exact (Row.new w e r).cell hj) h1 (by omega) (by rw [hlen]; unfold maxLen; omega) (by rw [hlen]; exact hb) (Nat.zero_le _) (w.heap.size + 1) (by simp) ?_
  intro g cap w' hown' hgr hat hlt
  have hg0 : w.grownBy w' v.ownBlock := grown_trans (grown_of_below hbel _) hgr (.inl rfl)
  have hgB : B ≤ g := by
    rcases hat with hat | hat
    · exact hfr g hat
    · omega
  have hflat : rows.flatten ++ r = (rows ++ [r]).flatten := by simp
  refine h _ w' ⟨rows ++ [r], ?_, ?_, ?_, ?_⟩ hg0 (hat.imp (fun e => e.symm) (fun e q hq => by simp [Value.ownBlock] at hq; omega))
  · intro q hq
    rcases List.mem_append.1 hq with hq | hq
    · exact h0 q hq
    · simp at hq; subst hq; exact hrl
  · rw [List.length_append, ← hflat]
    exact hown'
  · exact fun j hj => by simp [Value.ownBlock] at hj; omega
  · have hold : All2 (R (fun b => B ≤ b ∧ (Value.slice (some ⟨g, 0, none⟩) (rows.length + 1) cap).ownBlock ≠ some b) w') rows ys := hall.mono fun q b hq => hR _ _ w w' q b hq hg0.size fun j hj hjl => by
      refine ⟨hg0.block j hjl (fun e => hj.2 e.symm), hj.1, fun e => ?_⟩
      simp [Value.ownBlock] at e
      rcases hat with hat | hat
      · exact hj.2 (by rw [hat, e])
      · omega
    have hnew : R (fun b => B ≤ b ∧ (Value.slice (some ⟨g, 0, none⟩) (rows.length + 1) cap).ownBlock ≠ some b) w' r y := hR _ _ w w' r y hr hg0.size fun j hj hjl => by
      unfold From at hj
      refine ⟨hg0.block j hjl (fun e => by have := hCv j e.symm; omega), by omega, fun e => ?_⟩
      simp [Value.ownBlock] at e
      rcases hat with hat | hat
      · have := hCv g hat; omega
      · omega
    exact All2.app hold ⟨hnew, trivial⟩

end

/-- The states behind the first k requests. -/
def stL (ys : List PReq) (k : Nat) : List PApp := (List.range k).map fun i => stA ys (i + 1)
theorem stL_len (ys : List PReq) (k : Nat) : (stL ys k).length = k := by simp [stL]
theorem stL_snoc (ys : List PReq) (k : Nat) : stL ys (k + 1) = stL ys k ++ [stA ys (k + 1)] := by simp [stL, List.range_succ]
theorem stL_at {ys : List PReq} {k i : Nat} (h : i < k) : (stL ys k)[i]? = some (stA ys (i + 1)) := by simp [stL, h]
theorem LB.apartO {α : Type} {R : (Nat → Prop) → World → List Value → α → Prop} {T e : TypeId} {k B : Nat} {w : World} {v u : Value} {ys : List α} {xs : List Value} (h : LB R T k B w v ys) (ho : Own w e u xs) (ht : e ≠ T) : ∀ j, v.ownBlock = some j → u.ownBlock ≠ some j := fun j hj => by
  obtain ⟨rows, r0, hown, hfr, hall⟩ := h
  rcases hown.2 with ⟨rfl, _⟩ | ⟨g, cap, cur, rfl, _, hgg, _⟩
  · simp [Value.ownBlock] at hj
  · simp [Value.ownBlock] at hj
    subst hj
    exact own_row_nD (t := T) (xs := cur.toList) (by unfold Row; simpa using hgg) ho ht
theorem rapp_from {C : Nat} {w w' : World} {r : List Value} {a : PApp} (h : RApp (From C) w r a) (hs : w.heap.size ≤ w'.heap.size) (hb : ∀ k, C ≤ k → k < w.heap.size → w'.heap[k]? = w.heap[k]?) : RApp (From C) w' r a := mov_app _ _ _ _ _ _ h hs (fun k hk hlt => ⟨hb k hk hlt, hk⟩)
theorem rapp_any {G : Nat → Prop} {w : World} {r : List Value} {a : PApp} (h : RApp G w r a) : RApp Any w r a := mov_app _ _ _ _ _ _ h (Nat.le_refl _) (fun k _ _ => ⟨rfl, trivial⟩)
theorem Yk_turn {b bA : Nat} {vd v' : Value} {w : World} (hs : Spt w vd v') {k : Nat} (hk : k ≠ b ∧ k ≠ bA ∧ vd.ownBlock ≠ some k) (hlt : k < w.heap.size) : k ≠ b ∧ k ≠ bA ∧ v'.ownBlock ≠ some k := by
  refine ⟨hk.1, hk.2.1, ?_⟩
  rcases hs with e | hf
  · rw [e]; exact hk.2.2
  · intro e
    have := hf k e
    omega
end Go.Proofs.YteafgdidjdfiiaaGreat
end

section
set_option linter.unusedVariables false
set_option linter.unusedSimpArgs false
namespace Go.Proofs.YteafgdidjdfiiaaGreat
open Go.RowKit Oct Kvl

theorem aliveS1 : doS [] (5, [97], [], [], 3) 1 5 = ([([97], [1, 8])], 0, []) := by decide
theorem aliveS2 : doS [([97], [1, 8])] (5, [97], [], [], 3) 2 7 = ([([97], [1, 8])], 4, [1, 1]) := by decide
theorem aliveS3 : doS [([97], [1, 8])] (5, [97], [], [], 3) 2 8 = ([([97], [2, 11])], 0, []) := by decide
/-- One lease alone. -/
theorem LB.one {B : Nat} {w : World} {v : Value} {n : List Int} {p q : Int} (h : LB OLea 75 3 B w v [(n, [p, q])]) : ∃ g cap, v = .slice (some ⟨g, 0, none⟩) 1 cap ∧ 1 ≤ cap ∧ cap ≤ maxLen ∧ ∀ u, Below w.heap.size w u → u.cell? ⟨g, 1, none⟩ = some (.int .i64 p) ∧ u.cell? ⟨g, 2, none⟩ = some (.int .i64 q) := by
  obtain ⟨g, cap, cur, rows, e, k1, k2, k3, k4, k5, k6, k7, k8, k9⟩ := h.opnS (by simp)
  obtain ⟨rp, hrp⟩ : ∃ rp, rows[0]? = some rp := ⟨_, List.getElem?_eq_getElem (by simp at k6; omega)⟩
  obtain ⟨sa, p1, q1, rfl, o1, hu⟩ := k9.get hrp (rfl : [(n, [p, q])][0]? = some (n, [p, q]))
  have hu' : [p, q] = [p1, q1] := hu
  cases hu'
  have hcell : ∀ j z, ([sa, .int .i64 p, .int .i64 q] : List Value)[j]? = some z → cur[j]? = some z := fun j z hz => by
    have hj : j < 3 := (List.getElem?_eq_some_iff.1 hz).1
    have := flat_at (j := j) k7 hrp hz
    rw [← k8, List.getElem?_take, if_pos (by simp; omega)] at this
    simpa using this
  exact ⟨g, cap, e, k3, k4, fun u hu => ⟨keepE hu (k1.cell (hcell 1 _ rfl)), keepE hu (k1.cell (hcell 2 _ rfl))⟩⟩
theorem sz_one {n : List Int} {p q : Int} (h : n.length ≤ 16) : szL 40 szS [(n, [p, q])] := ⟨by simp, fun y hy => by simp at hy; subst hy; show n.length ≤ _; omega⟩

end Go.Proofs.YteafgdidjdfiiaaGreat
end

section
set_option linter.unusedVariables false
set_option linter.unusedSimpArgs false
namespace Go.Proofs.YteafgdidjdfiiaaGreat
open Go.RowKit Oct Kvl

end Go.Proofs.YteafgdidjdfiiaaGreat
end
