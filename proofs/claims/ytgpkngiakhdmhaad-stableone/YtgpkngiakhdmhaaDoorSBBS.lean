/- stable: Slots. -/
import Derived.Test.YtgpkngiakhdmhaaDoorSBAZ
import Derived.Test.YtgpkngiakhdmhaaDoorSBBN
import Derived.Test.YtgpkngiakhdmhaaDoorSBBR
import Derived.Stop.BytesEq
import Derived.Deep.CutBlock
import Derived.Deep.RegionHeld3
import Derived.BigQuiet
import Derived.Deep.MidRow
import Derived.Deep.Cut
import Derived.Test.YtgpkngiakhdmhaaDoorSBAD
set_option linter.unusedSimpArgs false
set_option linter.unusedVariables false
namespace Go.Proofs.YtgpkngiakhdmhaaDoor
section
open Go.RowKit Oct Stb MI Bal Sha
/-- A digest and a signature; what came at a slot, by its signer; what came, by its slot (with the block in which it lies). -/
abbrev PCh := List Int × List Int
abbrev PIn := List (Int × PCh)
abbrev PTl := List (Int × Nat × PIn)
def keysI (ch : PIn) : List Int := ch.map (·.1)
def keysT (tl : PTl) : List Int := tl.map (·.1)
/-- What came at a slot. -/
def atT : PTl → Int → PIn
  | [], _ => []
  | y :: ys, s => if s = y.1 then y.2.2 else atT ys s
/-- The votes for a digest. -/
def vts (ch : PIn) (d : List Int) : List PVote := (ch.filter (fun z => decide (z.2.1 = d))).map (fun z => (z.1, z.2.2))
def rgtC (s : Int) (d : List Int) (v : PVote) : Bool := rightV 10 0 0 s d v
/-- May a vote of this signer be counted at the slot? -/
def mayC (cut : Int) (tl : PTl) (s i : Int) : Bool := decide (cut < s) && decide (s ≤ 1000000) && decide (s % 4 = 0) && (fnd i (keysI (atT tl s))).isNone && (decide (0 < (atT tl s).length) || decide (tl.length < 64))
def isR (n s : Int) (d : List Int) (v : PVote) : Bool := rgt n && decide (d.length = 32) && decide (0 ≤ v.1) && decide (v.1 < n) && rgtC s d v
/-- The tally with one more vote; nb is the block that a new slot's votes lie in. -/
def putT : PTl → Int → Nat → Int → PCh → PTl
  | [], s, nb, i, c => [(s, nb, [(i, c)])]
  | y :: ys, s, nb, i, c => if s = y.1 then (y.1, y.2.1, y.2.2 ++ [(i, c)]) :: ys else y :: putT ys s nb i c
/-- What is known of what came at a slot. -/
structure OkE (n cut : Int) (y : Int × Nat × PIn) : Prop where
  lo : cut < y.1
  hi : y.1 ≤ 1000000
  per : y.1 % 4 = 0
  some : 0 < y.2.2.length
  dup : (keysI y.2.2).Nodup
  each : ∀ z ∈ y.2.2, 0 ≤ z.1 ∧ z.1 < n ∧ z.2.1.length = 32 ∧ Byt z.2.1 ∧ rgtC y.1 z.2.1 (z.1, z.2.2) = true
structure OkT (n cut : Int) (tl : PTl) : Prop where
  lo : 0 ≤ cut
  dup : (keysT tl).Nodup
  len : tl.length ≤ 64
  right : tl ≠ [] → rgt n = true
  all : ∀ y ∈ tl, OkE n cut y
theorem at_noneT : ∀ {tl : PTl} {s : Int}, fnd s (keysT tl) = none → atT tl s = []
  | [], _, _ => rfl
  | y :: ys, s, h => by
    have h : (if s = y.1 then some 0 else (fnd s (keysT ys)).map (· + 1)) = none := h
    unfold atT
    split at h
    · cases h
    · rename_i hne
      rw [if_neg hne]
      exact at_noneT (by simpa using h)
theorem fnd_getT : ∀ {tl : PTl} {s : Int} {j : Nat}, fnd s (keysT tl) = some j → ∃ y, tl[j]? = some y ∧ y.1 = s ∧ atT tl s = y.2.2
  | [], s, j, h => by cases h
  | y :: ys, s, j, h => by
    have h : (if s = y.1 then some 0 else (fnd s (keysT ys)).map (· + 1)) = some j := h
    unfold atT
    split at h
    · rename_i e
      injection h with h
      subst h
      rw [if_pos e]
      exact ⟨y, rfl, e.symm, rfl⟩
    · rename_i hne
      rw [if_neg hne]
      cases hf : fnd s (keysT ys) with
      | none => rw [hf] at h; cases h
      | some i =>
        rw [hf] at h
        simp at h
        subst h
        simpa using fnd_getT hf
theorem at_put : ∀ {tl : PTl} {s : Int} {nb : Nat} {i : Int} {c : PCh}, atT (putT tl s nb i c) s = atT tl s ++ [(i, c)]
  | [], s, nb, i, c => by simp [putT, atT]
  | y :: ys, s, nb, i, c => by
    unfold putT
    split
    · rename_i e
      simp [atT, e]
    · rename_i hne
      simp only [atT, if_neg hne]
      exact at_put
theorem put_mem : ∀ {tl : PTl} {s : Int} {nb : Nat} {i : Int} {c : PCh} {y : Int × Nat × PIn}, y ∈ putT tl s nb i c → y ∈ tl ∨ ∃ k, y = (s, k, atT tl s ++ [(i, c)]) ∧ ((s, k, atT tl s) ∈ tl ∨ k = nb ∧ atT tl s = [])
  | [], s, nb, i, c, y, h => by
    simp [putT] at h
    exact .inr ⟨nb, by simp [h, atT], .inr ⟨rfl, rfl⟩⟩
  | z :: ys, s, nb, i, c, y, h => by
    unfold putT at h
    split at h
    · rename_i e
      rcases List.mem_cons.1 h with rfl | h
      · right
        refine ⟨z.2.1, by simp [atT, e], .inl ?_⟩
        simp only [atT, if_pos e]
        rw [e]
        exact List.mem_cons_self
      · exact .inl (List.mem_cons_of_mem _ h)
    · rename_i hne
      rcases List.mem_cons.1 h with rfl | h
      · exact .inl List.mem_cons_self
      · rcases put_mem h with h | ⟨k, h1, h2⟩
        · exact .inl (List.mem_cons_of_mem _ h)
        · right
          refine ⟨k, by simp only [atT, if_neg hne]; exact h1, ?_⟩
          simp only [atT, if_neg hne]
          rcases h2 with h2 | h2
          · exact .inl (List.mem_cons_of_mem _ h2)
          · exact .inr h2
theorem rgt_sig {s : Int} {d : List Int} {v : PVote} (h : rgtC s d v = true) : v.2.length = 32 ∧ Byt v.2 := by
  unfold rgtC rightV verL at h
  split at h
  · rename_i hk
    have e := of_decide_eq_true h
    rw [e]
    exact ⟨by rw [signL_yes _ _ hk.1 hk.2, shaL_len], signL_byt _ _ _⟩
  · cases h
theorem OkE.len {n cut : Int} {y : Int × Nat × PIn} (h : OkE n cut y) (hn : rgt n = true) : (y.2.2.length : Int) ≤ n := by
  have h1 := len_of_sub (keysI y.2.2) (rng n.toNat) h.dup (fun x hx => by
    obtain ⟨z, hz, rfl⟩ := List.mem_map.1 hx
    have := h.each z hz
    exact mem_rng.2 (by omega))
  rw [rng_len] at h1
  have := rgt_le hn
  unfold keysI at h1
  rw [List.length_map] at h1
  omega
theorem OkE.len16 {n cut : Int} {y : Int × Nat × PIn} (h : OkE n cut y) (hn : rgt n = true) : y.2.2.length ≤ 16 := by
  have h1 := h.len hn
  have := rgt_le hn
  omega
theorem OkT.at {n cut : Int} {tl : PTl} (h : OkT n cut tl) {s : Int} (hs : atT tl s ≠ []) : ∃ k, (s, k, atT tl s) ∈ tl ∧ OkE n cut (s, k, atT tl s) ∧ rgt n = true := by
  cases hf : fnd s (keysT tl) with
  | none => exact absurd (at_noneT hf) hs
  | some j =>
    obtain ⟨y, hy, e1, e2⟩ := fnd_getT hf
    have hm := List.mem_of_getElem? hy
    obtain ⟨y1, y2, y3⟩ := y
    simp only at e1 e2
    subst e1 e2
    exact ⟨y2, hm, h.all _ hm, h.right (fun e => by rw [e] at hm; cases hm)⟩
theorem OkT.len16 {n cut : Int} {tl : PTl} (h : OkT n cut tl) (s : Int) : (atT tl s).length ≤ 16 := by
  by_cases hs : atT tl s = []
  · rw [hs]; decide
  · obtain ⟨k, _, h1, h2⟩ := h.at hs
    exact h1.len16 h2
theorem OkT.nil {n : Int} : OkT n 0 [] := ⟨by decide, List.nodup_nil, by decide, fun h => absurd rfl h, fun y h => by cases h⟩
theorem put_keys : ∀ (tl : PTl) (s : Int) (nb : Nat) (i : Int) (c : PCh), keysT (putT tl s nb i c) = if (fnd s (keysT tl)).isNone = true then keysT tl ++ [s] else keysT tl
  | [], s, nb, i, c => rfl
  | y :: ys, s, nb, i, c => by
    have e0 : fnd s (keysT (y :: ys)) = if s = y.1 then some 0 else (fnd s (keysT ys)).map (· + 1) := rfl
    rw [e0]
    unfold putT
    by_cases e : s = y.1
    · rw [if_pos e, if_pos e]
      rfl
    · rw [if_neg e, if_neg e]
      have := put_keys ys s nb i c
      show y.1 :: keysT (putT ys s nb i c) = _
      rw [this]
      cases hf : fnd s (keysT ys) <;> rfl
theorem fnd_isNone {q : Int} {l : List Int} (h : (fnd q l).isNone = true) : q ∉ l := fnd_none (by simpa using h)
theorem isR_rgt {n s : Int} {d : List Int} {v : PVote} (h : isR n s d v = true) : rgt n = true ∧ d.length = 32 ∧ 0 ≤ v.1 ∧ v.1 < n ∧ rgtC s d v = true := by
  simp [isR] at h
  exact ⟨h.1.1.1.1, h.1.1.1.2, h.1.1.2, h.1.2, h.2⟩
theorem mayC_all {cut : Int} {tl : PTl} {s i : Int} (h : mayC cut tl s i = true) : cut < s ∧ s ≤ 1000000 ∧ s % 4 = 0 ∧ fnd i (keysI (atT tl s)) = none ∧ (0 < (atT tl s).length ∨ tl.length < 64) := by
  simp [mayC] at h
  exact ⟨h.1.1.1.1, h.1.1.1.2, h.1.1.2, h.1.2, h.2⟩
theorem OkT.put {n cut : Int} {tl : PTl} (h : OkT n cut tl) {s i : Int} {d g : List Int} (nb : Nat) (hd : Byt d) (hm : mayC cut tl s i = true) (hr : isR n s d (i, g) = true) : OkT n cut (putT tl s nb i (d, g)) := by
  obtain ⟨r1, r2, r3, r4, r5⟩ := isR_rgt hr
  obtain ⟨m1, m2, m3, m4, m5⟩ := mayC_all hm
  have hk := put_keys tl s nb i (d, g)
  have hl : ∀ (l : PTl), (keysT l).length = l.length := fun l => by simp [keysT]
  refine ⟨h.lo, ?_, ?_, fun _ => r1, fun y hy => ?_⟩
  · rw [hk]
    split
    · rename_i hn
      rw [List.nodup_append]
      refine ⟨h.dup, by simp, fun a ha b hb => ?_⟩
      simp at hb
      subst hb
      exact fun e => fnd_isNone hn (e ▸ ha)
    · exact h.dup
  · rw [← hl, hk]
    split
    · rename_i hn
      have : atT tl s = [] := at_noneT (by simpa using hn)
      rw [this] at m5
      simp at m5
      simp [hl]
      omega
    · rw [hl]
      exact h.len
  · rcases put_mem hy with hy | ⟨k, rfl, hk⟩
    · exact h.all y hy
    · have hnin := fnd_none m4
      have hz : ∀ z ∈ atT tl s, 0 ≤ z.1 ∧ z.1 < n ∧ z.2.1.length = 32 ∧ Byt z.2.1 ∧ rgtC s z.2.1 (z.1, z.2.2) = true := by
        rcases hk with hk | ⟨_, hk⟩
        · exact (h.all _ hk).each
        · rw [hk]; intro z hz; cases hz
      have hdp : (keysI (atT tl s)).Nodup := by
        rcases hk with hk | ⟨_, hk⟩
        · exact (h.all _ hk).dup
        · rw [hk]; exact List.nodup_nil
      refine ⟨m1, m2, m3, by simp, ?_, fun z hz' => ?_⟩
      · show (keysI (atT tl s ++ [(i, (d, g))])).Nodup
        unfold keysI at hdp hnin ⊢
        rw [List.map_append, List.nodup_append]
        refine ⟨hdp, by simp, fun a ha b hb => ?_⟩
        simp at hb
        subst hb
        exact fun e => hnin (e ▸ ha)
      · rcases List.mem_append.1 hz' with hz' | hz'
        · exact hz z hz'
        · simp at hz'
          subst hz'
          exact ⟨r3, r4, r2, hd, r5⟩
/-- Of the slots above a cut alone. -/
def cutT (tl : PTl) (c : Int) : PTl := tl.filter (fun y => decide (c < y.1))
theorem OkT.cut {n cut c : Int} {tl : PTl} (h : OkT n cut tl) (hc : cut ≤ c) : OkT n c (cutT tl c) := by
  have hs : (cutT tl c).Sublist tl := List.filter_sublist
  refine ⟨Int.le_trans h.lo hc, (hs.map _).nodup h.dup, Nat.le_trans hs.length_le h.len, fun hne => h.right (fun e => hne (by rw [e]; rfl)), fun y hy => ?_⟩
  obtain ⟨h1, h2⟩ := List.mem_filter.1 hy
  have := h.all y h1
  exact ⟨by simpa using h2, this.hi, this.per, this.some, this.dup, this.each⟩
theorem vts_len (ch : PIn) (d : List Int) : (vts ch d).length ≤ ch.length := by
  unfold vts
  rw [List.length_map]
  exact List.length_filter_le _ _
theorem vts_two (ch : PIn) {d e : List Int} (h : d ≠ e) : (vts ch d).length + (vts ch e).length ≤ ch.length := by
  unfold vts
  rw [List.length_map, List.length_map]
  induction ch with
  | nil => simp
  | cons z zs ih =>
    by_cases h1 : z.2.1 = d
    · have h2 : ¬ z.2.1 = e := fun h2 => h (h1 ▸ h2)
      simp only [List.filter_cons, h1, decide_true, if_true, List.length_cons]
      rw [decide_eq_false (by rwa [h1] at h2)]
      simp
      omega
    · by_cases h2 : z.2.1 = e
      · simp only [List.filter_cons, h2, decide_true, if_true, List.length_cons]
        rw [decide_eq_false (by rwa [h2] at h1)]
        simp
        omega
      · simp only [List.filter_cons, decide_eq_false h1, decide_eq_false h2, List.length_cons]
        simp
        omega
/-- Two quorums have a signer in common, who has one vote. -/
theorem OkE.one {n cut : Int} {y : Int × Nat × PIn} (h : OkE n cut y) (hn : rgt n = true) {d e : List Int} (hd : quo n ≤ ((vts y.2.2 d).length : Int)) (he : quo n ≤ ((vts y.2.2 e).length : Int)) : d = e := by
  by_cases hne : d = e
  · exact hne
  · have h1 := vts_two y.2.2 hne
    have h2 := h.len hn
    have h3 := fau_three hn
    have h4 := quo_yes hn
    omega
/-- The digest that a quorum voted for. -/
def crtD (n : Int) (ch : PIn) : Option (List Int) := (ch.find? (fun z => decide (quo n ≤ ((vts ch z.2.1).length : Int)))).map (·.2.1)
theorem crt_none {n : Int} {ch : PIn} (h : ∀ z ∈ ch, ¬ quo n ≤ ((vts ch z.2.1).length : Int)) : crtD n ch = none := by
  unfold crtD
  rw [List.find?_eq_none.2 (fun z hz => by simpa using h z hz)]
  rfl
theorem crt_some {n cut : Int} {y : Int × Nat × PIn} (h : OkE n cut y) (hn : rgt n = true) {z : Int × PCh} (hz : z ∈ y.2.2) (hq : quo n ≤ ((vts y.2.2 z.2.1).length : Int)) : crtD n y.2.2 = some z.2.1 := by
  unfold crtD
  cases hf : y.2.2.find? (fun z => decide (quo n ≤ ((vts y.2.2 z.2.1).length : Int))) with
  | none => exact absurd (decide_eq_true hq) (by simpa using List.find?_eq_none.1 hf z hz)
  | some u =>
    have hu : quo n ≤ ((vts y.2.2 u.2.1).length : Int) := by simpa using List.find?_some hf
    rw [h.one hn hq hu]
    rfl
end
section
open Go.RowKit Oct Stb MI Bal Sha
/-- Not a map. -/
def NMap (w : World) : Nat → Prop := fun k => ∀ es c, w.heap[k]? ≠ some (.map es c)
theorem cell_nmap {w : World} {a : Addr} {u : Value} (h : w.cell? a = some u) : NMap w a.block := fun es c hm => by
  simp [World.cell?, hm] at h
theorem RT.nmap {G : Nat → Prop} {w : World} {v : Value} {l : List Int} (h : RT G w v l) : RT (NMap w) w v l := by
  refine ⟨h.1, fun hx k hk => ?_⟩
  obtain ⟨ao, cap, rfl, h1, h2, h3, h4⟩ := h.1.2
  cases ao with
  | none => simp [Value.ownBlock] at hk
  | some a =>
    obtain ⟨x, xs, rfl⟩ := List.exists_cons_of_ne_nil hx
    have h5 := h4 a rfl 0 _ rfl
    have h6 := cell_nmap h5
    rw [addr_block] at h6
    have h7 : a.block = k := by simpa [Value.ownBlock] using hk
    exact h7 ▸ h6
/-- A choice in memory. -/
def RCe (w : World) (z : Int × Value) (c : Int × PCh) : Prop := z.1 = c.1 ∧ ∃ sg, z.2 = .agg (bc c.2.1 ++ [sg]).toArray ∧ RT Any w sg c.2.2
theorem RCe.mv {w w' : World} {z : Int × Value} {c : Int × PCh} (h : RCe w z c) (hm : Mv (NMap w) Any w w') : RCe w' z c := by
  obtain ⟨h1, sg, h2, h3⟩ := h
  exact ⟨h1, sg, h2, h3.nmap.mv hm⟩
/-- What came at a slot, in the map at block k. -/
def RIn (w : World) (k : Nat) (ch : PIn) : Prop := ∃ l, Mp w k l ∧ All2 (RCe w) l ch
theorem RIn.keys {w : World} {l : List (Int × Value)} : ∀ {ch : PIn}, All2 (RCe w) l ch → l.map (·.1) = keysI ch := by
  induction l with
  | nil =>
    intro ch h
    cases ch with
    | nil => rfl
    | cons _ _ => exact h.elim
  | cons z l ih =>
    intro ch h
    cases ch with
    | nil => exact h.elim
    | cons c ch =>
      have := ih h.2
      unfold keysI at this ⊢
      simp [h.1.1, this]
theorem RIn.mv {w w' : World} {k : Nat} {ch : PIn} (h : RIn w k ch) (hk : w'.heap[k]? = w.heap[k]?) (hm : Mv (NMap w) Any w w') : RIn w' k ch := by
  obtain ⟨l, ⟨es, clock, h3, h4⟩, h2⟩ := h
  exact ⟨l, ⟨es, clock, hk.trans h3, h4⟩, h2.mono fun z c hz => hz.mv hm⟩
theorem RIn.lt {w : World} {k : Nat} {ch : PIn} (h : RIn w k ch) : k < w.heap.size := by
  obtain ⟨l, h1, _⟩ := h
  exact h1.lt
/-- The map's entries of a tally's slots. -/
def entT (tl : PTl) : List (Int × Value) := tl.map (fun y => (y.1, .map (some y.2.1)))
def blkT (tl : PTl) : List Nat := tl.map (·.2.1)
/-- A tally at block b, its map at block m. -/
structure Tly (w : World) (b m : Nat) (n cut : Int) (tl : PTl) : Prop where
  row : Row w b 56 [.int .i64 n, .int .i64 cut, .map (some m)]
  ok : OkT n cut tl
  map : Mp w m (entT tl)
  ins : ∀ y ∈ tl, RIn w y.2.1 y.2.2
  dup : (m :: blkT tl).Nodup
/-- The same while a vote is put in: a slot may have no votes. -/
structure TlyM (w : World) (b m : Nat) (n cut : Int) (tl : PTl) : Prop where
  row : Row w b 56 [.int .i64 n, .int .i64 cut, .map (some m)]
  map : Mp w m (entT tl)
  ins : ∀ y ∈ tl, RIn w y.2.1 y.2.2
  dup : (m :: blkT tl).Nodup
theorem Tly.toM {w : World} {b m : Nat} {n cut : Int} {tl : PTl} (h : Tly w b m n cut tl) : TlyM w b m n cut tl := ⟨h.row, h.map, h.ins, h.dup⟩
theorem TlyM.ofM {w : World} {b m : Nat} {n cut : Int} {tl : PTl} (h : TlyM w b m n cut tl) (hok : OkT n cut tl) : Tly w b m n cut tl := ⟨h.row, hok, h.map, h.ins, h.dup⟩
/-- The blocks of its maps. -/
def Own1 (m : Nat) (tl : PTl) : Nat → Prop := fun k => k = m ∨ k ∈ blkT tl
/-- Of what was there, only blocks of which S holds may have turned. -/
structure Gs (S : Nat → Prop) (w w' : World) : Prop where
  os : w'.os = w.os
  tape : w'.tape = w.tape
  output : w'.output = w.output
  size : w.heap.size ≤ w'.heap.size
  block : ∀ k, k < w.heap.size → ¬ S k → w'.heap[k]? = w.heap[k]?
theorem Gs.refl (S : Nat → Prop) (w : World) : Gs S w w := ⟨rfl, rfl, rfl, Nat.le_refl _, fun _ _ _ => rfl⟩
theorem Gs.bel {S : Nat → Prop} {w w' : World} (h : Below w.heap.size w w') : Gs S w w' := ⟨h.os, h.tape, h.output, h.size, fun k hk _ => h.block k hk⟩
theorem Gs.of {S : Nat → Prop} {w w' : World} {q : Nat} (h : w.grownBy w' (some q)) (hq : w.heap.size ≤ q ∨ S q) : Gs S w w' := ⟨h.os, h.tape, h.output, h.size, fun k hk hs => h.block k hk (fun e => by
  have e := Option.some.inj e
  rcases hq with hq | hq
  · omega
  · exact hs (e ▸ hq))⟩
theorem Gs.trans {S S' : Nat → Prop} {w w1 w2 : World} (h : Gs S w w1) (h' : Gs S' w1 w2) (hs : ∀ k, k < w.heap.size → S' k → S k) : Gs S w w2 :=
  ⟨h'.os.trans h.os, h'.tape.trans h.tape, h'.output.trans h.output, Nat.le_trans h.size h'.size, fun k hk h1 => (h'.block k (Nat.lt_of_lt_of_le hk h.size) (fun h2 => h1 (hs k hk h2))).trans (h.block k hk h1)⟩
theorem Gs.below {S : Nat → Prop} {B : Nat} {w w' : World} (h : Gs S w w') (hB : B ≤ w.heap.size) (hs : ∀ k, S k → B ≤ k) : Below B w w' := ⟨h.os, h.tape, h.output, h.size, fun k hk => h.block k (by omega) (fun hs' => by have := hs k hs'; omega)⟩
theorem MI.Mp.isMap {w : World} {k : Nat} {l : List (Int × Value)} (h : Mp w k l) : ¬ NMap w k := fun hn => by
  obtain ⟨es, clock, hb, _⟩ := h
  exact hn es clock hb
theorem Gs.nmap {S : Nat → Prop} {w w' : World} (h : Gs S w w') (hs : ∀ k, S k → ¬ NMap w k) : Mv (NMap w) Any w w' := fun k hk hlt => ⟨h.block k hlt (fun hS => hs k hS hk), trivial⟩
theorem TlyM.own {w : World} {b m : Nat} {n cut : Int} {tl : PTl} (h : TlyM w b m n cut tl) {k : Nat} (hk : Own1 m tl k) : ¬ NMap w k ∧ k < w.heap.size := by
  rcases hk with rfl | hk
  · exact ⟨h.map.isMap, h.map.lt⟩
  · obtain ⟨y, hy, rfl⟩ := List.mem_map.1 hk
    obtain ⟨l, hl, _⟩ := h.ins y hy
    exact ⟨hl.isMap, hl.lt⟩
theorem TlyM.mv {w w' : World} {b m : Nat} {n cut : Int} {tl : PTl} (h : TlyM w b m n cut tl) {S : Nat → Prop} (hg : Gs S w w') (hs : ∀ k, S k → ¬ NMap w k) (hd : ∀ k, S k → ¬ Own1 m tl k) : TlyM w' b m n cut tl := by
  have hk : ∀ k, Own1 m tl k → w'.heap[k]? = w.heap[k]? := fun k hk => hg.block k (h.own hk).2 (fun hS => hd k hS hk)
  refine ⟨(hg.block b h.row.lt (fun hS => hs b hS (cell_nmap (a := ⟨b, 0, none⟩) (h.row.cell (j := 0) rfl)))).trans h.row, ?_, fun y hy => (h.ins y hy).mv (hk _ (.inr (List.mem_map.2 ⟨y, hy, rfl⟩))) (hg.nmap hs), h.dup⟩
  obtain ⟨es, clock, h3, h4⟩ := h.map
  exact ⟨es, clock, (hk m (.inl rfl)).trans h3, h4⟩
theorem TlyM.below {w w' : World} {b m : Nat} {n cut : Int} {tl : PTl} (h : TlyM w b m n cut tl) (hb : Below w.heap.size w w') : TlyM w' b m n cut tl :=
  h.mv (S := fun _ => False) (Gs.bel hb) (fun _ h => h.elim) (fun _ h => h.elim)
theorem Tly.own {w : World} {b m : Nat} {n cut : Int} {tl : PTl} (h : Tly w b m n cut tl) {k : Nat} (hk : Own1 m tl k) : ¬ NMap w k ∧ k < w.heap.size := h.toM.own hk
theorem Tly.mv {w w' : World} {b m : Nat} {n cut : Int} {tl : PTl} (h : Tly w b m n cut tl) {S : Nat → Prop} (hg : Gs S w w') (hs : ∀ k, S k → ¬ NMap w k) (hd : ∀ k, S k → ¬ Own1 m tl k) : Tly w' b m n cut tl := (h.toM.mv hg hs hd).ofM h.ok
theorem Tly.below {w w' : World} {b m : Nat} {n cut : Int} {tl : PTl} (h : Tly w b m n cut tl) (hb : Below w.heap.size w w') : Tly w' b m n cut tl := (h.toM.below hb).ofM h.ok
theorem ent_keysT (tl : PTl) : (entT tl).map (·.1) = keysT tl := by simp [entT, keysT]
theorem zeroV (w : World) : (zeroValue 59).run Tryd.prog w = .ok (.map none) w := by kernel_rfl
def zCh : List Value := bc (List.replicate 32 0) ++ [.slice none 0 0]
theorem zeroCh (w : World) : (zeroValue 63).run Tryd.prog w = .ok (.agg zCh.toArray) w := by kernel_rfl
/-- Which map a look-up at a slot gives. -/
def mpT (tl : PTl) (s : Int) : Value := match fnd s (keysT tl) with
  | some j => .map ((tl[j]?).map (·.2.1))
  | none => .map none
theorem TlyM.look {w : World} {b m : Nat} {n cut : Int} {tl : PTl} (h : TlyM w b m n cut tl) (s : Int) : ∀ u, u.heap[m]? = w.heap[m]? → (Instr.lookup 54 (.map (some m)) (.int .i64 s) false).run Tryd.prog u = .ok (mpT tl s) u := by
  intro u hu
  have hm : Mp u m (entT tl) := by
    obtain ⟨es, clock, h3, h4⟩ := h.map
    exact ⟨es, clock, hu.trans h3, h4⟩
  unfold mpT
  cases hf : fnd s (keysT tl) with
  | none => exact hm.look_none Tryd.underlying54 (by rw [ent_keysT]; exact hf) zeroV false
  | some j =>
    obtain ⟨y, hy, e1, _⟩ := fnd_getT hf
    obtain ⟨y1, y2, y3⟩ := y
    simp only at e1
    subst e1
    simp only [hy]
    exact hm.look_some Tryd.underlying54 (j := j) (by rw [ent_keysT]; exact hf) (by unfold entT; rw [List.getElem?_map, hy]; rfl) false
theorem Tly.look {w : World} {b m : Nat} {n cut : Int} {tl : PTl} (h : Tly w b m n cut tl) (s : Int) : ∀ u, u.heap[m]? = w.heap[m]? → (Instr.lookup 54 (.map (some m)) (.int .i64 s) false).run Tryd.prog u = .ok (mpT tl s) u := h.toM.look s
/-- The map at a slot: none, or one that reads what came there. -/
theorem TlyM.at {w : World} {b m : Nat} {n cut : Int} {tl : PTl} (h : TlyM w b m n cut tl) (s : Int) : (mpT tl s = .map none ∧ atT tl s = [] ∧ fnd s (keysT tl) = none) ∨ ∃ k, mpT tl s = .map (some k) ∧ (s, k, atT tl s) ∈ tl ∧ RIn w k (atT tl s) := by
  unfold mpT
  cases hf : fnd s (keysT tl) with
  | none => exact .inl ⟨rfl, at_noneT hf, rfl⟩
  | some j =>
    obtain ⟨y, hy, e1, e2⟩ := fnd_getT hf
    have hm := List.mem_of_getElem? hy
    obtain ⟨y1, y2, y3⟩ := y
    simp only at e1 e2
    subst e1 e2
    exact .inr ⟨y2, by simp [hy], hm, h.ins _ hm⟩
/-- The map at a slot: none, or one that reads what came there. -/
theorem Tly.at {w : World} {b m : Nat} {n cut : Int} {tl : PTl} (h : Tly w b m n cut tl) (s : Int) : (mpT tl s = .map none ∧ atT tl s = [] ∧ fnd s (keysT tl) = none) ∨ ∃ k, mpT tl s = .map (some k) ∧ (s, k, atT tl s) ∈ tl ∧ RIn w k (atT tl s) ∧ OkE n cut (s, k, atT tl s) := by
  unfold mpT
  cases hf : fnd s (keysT tl) with
  | none => exact .inl ⟨rfl, at_noneT hf, rfl⟩
  | some j =>
    obtain ⟨y, hy, e1, e2⟩ := fnd_getT hf
    have hm := List.mem_of_getElem? hy
    obtain ⟨y1, y2, y3⟩ := y
    simp only at e1 e2
    subst e1 e2
    exact .inr ⟨y2, by simp [hy], hm, h.ins _ hm, h.ok.all _ hm⟩
/-- 'c, ok := m[i]'. -/
theorem RIn.look {w : World} {k : Nat} {ch : PIn} (h : RIn w k ch) (hlen : ∀ c ∈ ch, c.2.1.length = 32) (i : Int) : ∃ r : List Value, (∀ v ∈ r, v.oneCell' = true) ∧ r.length = 33 ∧ ∀ u, u.heap[k]? = w.heap[k]? → (Instr.lookup 59 (.map (some k)) (.int .i64 i) true).run Tryd.prog u = .ok (.tuple #[.agg r.toArray, .bool (fnd i (keysI ch)).isSome]) u := by
  obtain ⟨l, h1, h2⟩ := h
  have hk := RIn.keys h2
  have hmp : ∀ u : World, u.heap[k]? = w.heap[k]? → Mp u k l := fun u hu => by
    obtain ⟨es, clock, h3, h4⟩ := h1
    exact ⟨es, clock, hu.trans h3, h4⟩
  cases hf : fnd i (keysI ch) with
  | none =>
    refine ⟨zCh, ?_, rfl, fun u hu => ?_⟩
    · intro v hv
      rcases List.mem_append.1 hv with hv | hv
      · exact bc_one _ v hv
      · simp at hv
        subst hv
        rfl
    · exact (hmp u hu).look_none Tryd.underlying59 (by rw [hk]; exact hf) zeroCh true
  | some j =>
    have hj := (fnd_lt hf).2
    unfold keysI at hj
    rw [List.getElem?_map] at hj
    cases hc : ch[j]? with
    | none => rw [hc] at hj; cases hj
    | some c =>
      rw [hc] at hj
      have hj : c.1 = i := by simpa using hj
      obtain ⟨z, hz⟩ : ∃ z, l[j]? = some z := ⟨_, List.getElem?_eq_getElem (by rw [h2.len]; exact (List.getElem?_eq_some_iff.1 hc).1)⟩
      obtain ⟨e1, sg, e2, e3⟩ := h2.get hz hc
      obtain ⟨z1, z2⟩ := z
      simp only at e1 e2
      subst e2
      rw [hj] at e1
      subst e1
      refine ⟨bc c.2.1 ++ [sg], ?_, by rw [List.length_append, bc_len, hlen c (List.mem_of_getElem? hc)]; rfl, fun u hu => (hmp u hu).look_some Tryd.underlying59 (j := j) (by rw [hk]; exact hf) hz true⟩
      intro v hv
      rcases List.mem_append.1 hv with hv | hv
      · exact bc_one _ v hv
      · simp at hv
        subst hv
        exact e3.one
theorem RIn.len {w : World} {k : Nat} {ch : PIn} (h : RIn w k ch) (ty : TypeId) : (Builtin.len_ #[59] ty #[.map (some k)]).run Tryd.prog w = .ok (.int .i64 (ch.length : Int)) w := by
  obtain ⟨l, h1, h2⟩ := h
  have := h1.len Tryd.underlying59 ty
  rwa [h2.len] at this
end
section
open Go.RowKit Oct Stb MI Bal Sha
set_option maxRecDepth 10000 in
theorem digEq (w : World) {d e : List Int} (hd : d.length = 32) (he : e.length = 32) (bd : Byt d) (be : Byt e) : (binOp .eql 60 (.agg (bc d).toArray) (.agg (bc e).toArray)).run Tryd.prog w = .ok (.bool (decide (d = e))) w := by
  have hc : ∀ l : List Int, Byt l → bc l = (l.map (fun i => UInt8.ofNat i.toNat)).map Extern.Stop.cell := fun l hl => by
    unfold bc
    rw [List.map_map]
    refine List.map_congr_left fun i hi => ?_
    have := hl i hi
    simp only [Function.comp, Extern.Stop.cell]
    congr 1
    have h1 : (UInt8.ofNat i.toNat).toNat = i.toNat := by
      rw [UInt8.toNat_ofNat']
      omega
    rw [h1]
    exact (Int.toNat_of_nonneg this.1).symm
  have h8 : ∀ w, (sizeOf 5).run Tryd.prog w = .ok 1 w := fun w => by kernel_rfl
  have hq := run_eql_bytes (P := Tryd.prog) w 60 5 32 Tryd.underlying60 Tryd.underlying5 h8 (d.map (fun i => UInt8.ofNat i.toNat)) (e.map (fun i => UInt8.ofNat i.toNat)) (by simpa using hd) (by simpa using he)
  rw [← hc d bd, ← hc e be] at hq
  refine hq.trans ?_
  congr 2
  rw [Bool.eq_iff_iff]
  simp only [beq_iff_eq, decide_eq_true_eq]
  constructor
  · intro h
    have h2 : ∀ l : List Int, Byt l → (l.map (fun i => UInt8.ofNat i.toNat)).map (fun b => (b.toNat : Int)) = l := fun l hl => by
      rw [List.map_map]
      conv => rhs; rw [← List.map_id l]
      refine List.map_congr_left fun i hi => ?_
      have := hl i hi
      simp only [Function.comp, id]
      rw [UInt8.toNat_ofNat']
      omega
    rw [← h2 d bd, ← h2 e be, h]
  · rintro rfl; rfl
theorem newT_any (w : World) (n : Int) : Calls Tryd.prog 8 #[.int .i64 n] w fun e w' => e = .returned (.pointer (some ⟨w.heap.size + 1, 0, none⟩)) ∧ Tly w' (w.heap.size + 1) w.heap.size n 0 [] ∧ Below w.heap.size w w' := by
  have hmm := @run_makeMap Tryd.prog
  have hm1 := Mp.made w
  obtain ⟨w1, hw1⟩ : ∃ w1, w1 = w.alloc (.map #[] 0) := ⟨_, rfl⟩
  have hs : w1.heap.size = w.heap.size + 1 := by rw [hw1]; simp
  have hb1 : Below w.heap.size w w1 := by rw [hw1]; exact below_alloc _ _
  rw [← hw1] at hm1
  go_enter Tryd.func8, Tryd.ntmps8
  go_wp2_with fail
  go_ret
  rw [← hw1]
  have hr := Row.new w1 56 [.int .i64 n, .int .i64 0, .map (some w.heap.size)]
  rw [hs] at hr
  exact ⟨rfl, ⟨hr, OkT.nil, hm1.below (below_alloc _ _), fun y hy => (by cases hy), (by simp [blkT])⟩, hb1.alloc hb1.size _⟩
theorem fail_val {cut : Int} {tl : PTl} {s i : Int} (h : ¬ (cut < s ∧ s ≤ 1000000 ∧ s % 4 = 0)) : mayC cut tl s i = false := by
  unfold mayC
  by_cases h1 : cut < s
  · by_cases h2 : s ≤ 1000000
    · have h3 : ¬ s % 4 = 0 := fun h3 => h ⟨h1, h2, h3⟩
      simp [h3]
    · simp [h2]
  · simp [h1]
/-- A look-up in what came at a slot. -/
theorem Tly.look2 {w : World} {b m : Nat} {n cut : Int} {tl : PTl} (h : Tly w b m n cut tl) (s i : Int) : ∃ r : List Value, (∀ v ∈ r, v.oneCell' = true) ∧ r.length = 33 ∧ ∀ u, (∀ k, Own1 m tl k → u.heap[k]? = w.heap[k]?) → (Instr.lookup 59 (mpT tl s) (.int .i64 i) true).run Tryd.prog u = .ok (.tuple #[.agg r.toArray, .bool (fnd i (keysI (atT tl s))).isSome]) u := by
  rcases h.at s with ⟨e1, e2, e3⟩ | ⟨k, e1, e2, e3, e4⟩
  · refine ⟨zCh, ?_, rfl, fun u hu => ?_⟩
    · intro v hv
      rcases List.mem_append.1 hv with hv | hv
      · exact bc_one _ v hv
      · simp at hv
        subst hv
        rfl
    · rw [e1, e2]
      exact look_nilM Tryd.underlying59 i zeroCh true
  · obtain ⟨r, h1, h2, h3⟩ := e3.look (fun c hc => (e4.each c hc).2.2.1) i
    refine ⟨r, h1, h2, fun u hu => ?_⟩
    rw [e1]
    exact h3 u (hu k (.inr (List.mem_map.2 ⟨_, e2, rfl⟩)))
theorem Tly.len2 {w : World} {b m : Nat} {n cut : Int} {tl : PTl} (h : Tly w b m n cut tl) (s : Int) (ty : TypeId) : (Builtin.len_ #[59] ty #[mpT tl s]).run Tryd.prog w = .ok (.int .i64 ((atT tl s).length : Int)) w := by
  rcases h.at s with ⟨e1, e2, e3⟩ | ⟨k, e1, e2, e3, e4⟩
  · rw [e1, e2]
    exact len_nilM Tryd.underlying59 ty
  · rw [e1]
    exact e3.len ty
theorem Tly.len1 {w : World} {b m : Nat} {n cut : Int} {tl : PTl} (h : Tly w b m n cut tl) (ty : TypeId) : (Builtin.len_ #[54] ty #[.map (some m)]).run Tryd.prog w = .ok (.int .i64 (tl.length : Int)) w := by
  have := h.map.len Tryd.underlying54 ty
  rwa [show (entT tl).length = tl.length by simp [entT]] at this
set_option maxRecDepth 10000 in
set_option maxHeartbeats 4000000 in
theorem mayC_any {b m : Nat} {n cut : Int} {tl : PTl} (w : World) (h : Tly w b m n cut tl) (s i : Int) :
    Calls Tryd.prog 21 #[.pointer (some ⟨b, 0, none⟩), .int .i64 s, .int .i64 i] w fun e w' => e = .returned (.bool (mayC cut tl s i)) ∧ Below w.heap.size w w' := by
  have c1 := h.row.cell (j := 1) rfl
  have hlo := h.ok.lo
  by_cases h1 : cut < s
  case neg =>
    rw [fail_val (fun h => h1 h.1)]
    have d1 : decide (s ≤ cut) = true := by simp; omega
    clear h
    go_enter Tryd.func21, Tryd.ntmps21
    go_wp2_with fail
    go_ret
    exact ⟨rfl, Below.refl _ _⟩
  have d1 : decide (s ≤ cut) = false := by simp; omega
  by_cases h2 : s ≤ 1000000
  case neg =>
    rw [fail_val (fun h => h2 h.2.1)]
    have d2 : decide (1000000 < s) = true := by simp; omega
    clear h
    go_enter Tryd.func21, Tryd.ntmps21
    go_wp2_with fail
    go_ret
    exact ⟨rfl, Below.refl _ _⟩
  have d2 : decide (1000000 < s) = false := by simp; omega
  have htm : Int.tmod s 4 = s % 4 := Int.tmod_eq_emod_of_nonneg (by omega)
  have hwr : wrap64 (s % 4) = s % 4 := IntWalk.wrap64_in _ ⟨by omega, by omega⟩
  by_cases h3 : s % 4 = 0
  case neg =>
    rw [fail_val (fun h => h3 h.2.2)]
    have d3 : (s % 4 != 0) = true := by simpa using h3
    clear h
    go_enter Tryd.func21, Tryd.ntmps21
    go_wp2_with fail
    go_ret
    exact ⟨rfl, Below.refl _ _⟩
  have d3 : (s % 4 != 0) = false := by simpa using h3
  have c2 := h.row.cell (j := 2) rfl
  have hlk := h.look s w rfl
  obtain ⟨r, hr1, hr2, hr3⟩ := h.look2 s i
  have hlk2 := hr3 w (fun _ _ => rfl)
  clear hr3
  have hR := Row.new w 63 [.int .u8 0, .int .u8 0, .int .u8 0, .int .u8 0, .int .u8 0, .int .u8 0, .int .u8 0, .int .u8 0, .int .u8 0, .int .u8 0, .int .u8 0, .int .u8 0, .int .u8 0, .int .u8 0, .int .u8 0, .int .u8 0, .int .u8 0, .int .u8 0, .int .u8 0, .int .u8 0, .int .u8 0, .int .u8 0, .int .u8 0, .int .u8 0, .int .u8 0, .int .u8 0, .int .u8 0, .int .u8 0, .int .u8 0, .int .u8 0, .int .u8 0, .int .u8 0, .slice none 0 0]
  have hBz := below_alloc w (.cells #[.int .u8 0, .int .u8 0, .int .u8 0, .int .u8 0, .int .u8 0, .int .u8 0, .int .u8 0, .int .u8 0, .int .u8 0, .int .u8 0, .int .u8 0, .int .u8 0, .int .u8 0, .int .u8 0, .int .u8 0, .int .u8 0, .int .u8 0, .int .u8 0, .int .u8 0, .int .u8 0, .int .u8 0, .int .u8 0, .int .u8 0, .int .u8 0, .int .u8 0, .int .u8 0, .int .u8 0, .int .u8 0, .int .u8 0, .int .u8 0, .int .u8 0, .int .u8 0, .slice none 0 0] 63)
  have hm1 : mayC cut tl s i = ((fnd i (keysI (atT tl s))).isNone && (decide (0 < (atT tl s).length) || decide (tl.length < 64))) := by
    unfold mayC
    rw [decide_eq_true h1, decide_eq_true h2, decide_eq_true h3]
    simp
  rw [hm1]
  have HT := (show Hid (∀ u, Below w.heap.size w u → u.cell? ⟨b, 2, none⟩ = some (.map (some m)) ∧ (Instr.lookup 54 (.map (some m)) (.int .i64 s) false).run Tryd.prog u = .ok (mpT tl s) u ∧ (∀ ty, (Builtin.len_ #[59] ty #[mpT tl s]).run Tryd.prog u = .ok (.int .i64 ((atT tl s).length : Int)) u) ∧ (∀ ty, (Builtin.len_ #[54] ty #[.map (some m)]).run Tryd.prog u = .ok (.int .i64 (tl.length : Int)) u)) from fun u hu => ⟨(h.below hu).row.cell (j := 2) rfl, (h.below hu).look s u rfl, (h.below hu).len2 s, (h.below hu).len1⟩)
  have hi33 : (Tryd.prog.info? 63).map (·.size) = some r.length := by rw [hr2]; kernel_rfl
  have hrl : ([.int .u8 0, .int .u8 0, .int .u8 0, .int .u8 0, .int .u8 0, .int .u8 0, .int .u8 0, .int .u8 0, .int .u8 0, .int .u8 0, .int .u8 0, .int .u8 0, .int .u8 0, .int .u8 0, .int .u8 0, .int .u8 0, .int .u8 0, .int .u8 0, .int .u8 0, .int .u8 0, .int .u8 0, .int .u8 0, .int .u8 0, .int .u8 0, .int .u8 0, .int .u8 0, .int .u8 0, .int .u8 0, .int .u8 0, .int .u8 0, .int .u8 0, .int .u8 0, .slice none 0 0] : List Value).length = r.length := by rw [hr2]; rfl
  clear h hm1
  cases hf : fnd i (keysI (atT tl s)) with
  | some j =>
    rw [hf] at hlk2
    simp only [Option.isSome_some] at hlk2
    go_enter Tryd.func21, Tryd.ntmps21
    go_wp2_with (refine wl_store rfl _ _ _ rfl w.heap.size r rfl rfl _ _ hR hrl hi33 hr1 ?_; intro w2 R2 hg2)
    go_ret
    exact ⟨rfl, hBz.trans (grown_below hg2 hBz.size (fun k hk => by cases hk; exact Nat.le_refl _))⟩
  | none =>
    rw [hf] at hlk2
    simp only [Option.isSome_none] at hlk2
    generalize (atT tl s).length = la at *
    generalize tl.length = lt at *
    generalize mpT tl s = mv at *
    go_enter Tryd.func21, Tryd.ntmps21
    go_upto_region 6 with (refine wl_store rfl _ _ _ rfl w.heap.size r rfl rfl _ _ hR hrl hi33 hr1 ?_; intro w2 R2 hg2)
    have hB2 := hBz.trans (grown_below hg2 hBz.size (fun k hk => by cases hk; exact Nat.le_refl _))
    obtain ⟨c2, hlk, hl2, hl1⟩ := HT.out w2 hB2
    clear HT R2 hR hlk2 c1 hg2 hBz
    by_cases hla : 0 < la
    · have d4 : decide (0 < (la : Int)) = true := by simpa using hla
      go_wp2_with fail
      go_ret
      exact ⟨by simp [hla], hB2⟩
    · have d4 : decide (0 < (la : Int)) = false := by simpa using hla
      have d5 : decide ((lt : Int) < 64) = decide (lt < 64) := by rw [Bool.eq_iff_iff]; simp; omega
      go_wp2_with fail
      go_ret
      exact ⟨by simp [hla, d5], hB2⟩
end
section
open Go.RowKit Oct Stb MI Bal Sha
theorem LB.fmT {α : Type} {R : (Nat → Prop) → World → List Value → α → Prop} {T : TypeId} {k B : Nat} {w : World} {v : Value} {ys : List α} (h : LB R T k B w v ys) : ∃ ao cap, v = .slice ao ys.length cap := by
  obtain ⟨rows, h0, h1, h2, h3⟩ := h
  rcases h1.2 with ⟨rfl, e⟩ | ⟨g, cap, cur, rfl, _⟩
  · have := h3.len
    exact ⟨none, 0, by rw [← this, e]⟩
  · have := h3.len
    exact ⟨_, cap, by rw [← this]⟩
theorem Row.midT {w : World} {b : Nat} {t : TypeId} {xs : List Value} (h : Row w b t xs) (k : Nat) {ys : List Value} (e : (xs.drop k).take ys.length = ys) : w.rangeAt b k ys := fun j v hj => by
  refine h.cell ?_
  rw [← e, List.getElem?_take] at hj
  split at hj
  · rw [List.getElem?_drop] at hj
    exact hj
  · cases hj
/-- A vote as it is pushed: its text lies anywhere. -/
def RVa (w0 : World) (_ : Nat → Prop) (_ : World) (r : List Value) (x : PVote) : Prop := ∃ s, r = [.int .i64 x.1, s] ∧ RT Any w0 s x.2
theorem mov_va (w0 : World) : Mov (RVa w0) := fun _ _ _ _ _ _ h _ _ => h
theorem RL.ofVa {w0 w : World} {B : Nat} {v : Value} {ys : List PVote} (h : LB (RVa w0) 28 2 B w v ys) (hb : Below w0.heap.size w0 w) : RL RVote 2 Any w v ys := by
  have h1 := h.rl (mov_va w0)
  obtain ⟨rows, hk, hall⟩ := h1
  exact ⟨rows, hk.mv (Nat.le_refl _) Mv.any, hall.mono fun r x hx => by
    obtain ⟨s, e, hs⟩ := hx
    exact ⟨s, e, hs.mv (Mv.below hb)⟩⟩
theorem vts_snoc (l : List (Int × PCh)) (c : Int × PCh) (d : List Int) : vts (l ++ [c]) d = vts l d ++ if c.2.1 = d then [(c.1, c.2.2)] else [] := by
  unfold vts
  rw [List.filter_append, List.map_append]
  by_cases h : c.2.1 = d <;> simp [h]
theorem vts_perm {a b : PIn} (h : a.Perm b) (d : List Int) : (vts a d).Perm (vts b d) := (h.filter _).map _
theorem key_one {es0 : List MapEntry} {clock : Nat} (hE : En es0 clock) {a b : MapEntry} (ha : a ∈ es0) (hb : b ∈ es0) (h : unK a.key = unK b.key) : a = b := by
  have hd := hE.dup
  clear hE
  induction es0 with
  | nil => cases ha
  | cons x xs ih =>
    obtain ⟨hx, hxs⟩ := List.nodup_cons.1 hd
    rcases List.mem_cons.1 ha with ea | ha2
    · rcases List.mem_cons.1 hb with eb | hb2
      · rw [ea, eb]
      · exact absurd (List.mem_map.2 ⟨b, hb2, by rw [← h, ea]⟩) hx
    · rcases List.mem_cons.1 hb with eb | hb2
      · exact absurd (List.mem_map.2 ⟨a, ha2, by rw [h, eb]⟩) hx
      · exact ih ha2 hb2 hxs
theorem All2.find {α β : Type} {R : α → β → Prop} : ∀ {as_ : List α} {bs : List β}, All2 R as_ bs → ∀ {a : α}, a ∈ as_ → ∃ b ∈ bs, R a b
  | [], [], _, a, h => by cases h
  | x :: xs, y :: ys, h, a, ha => by
    rcases List.mem_cons.1 ha with rfl | ha
    · exact ⟨y, List.mem_cons_self, h.1⟩
    · obtain ⟨b, hb, hr⟩ := All2.find h.2 ha
      exact ⟨b, List.mem_cons_of_mem _ hb, hr⟩
  | [], _ :: _, h, _, _ => h.elim
  | _ :: _, [], h, _, _ => h.elim
theorem perm_keys {a b : PIn} (ha : (keysI a).Nodup) (hb : (keysI b).Nodup) (hs : ∀ c ∈ a, c ∈ b) (hk : (keysI a).Perm (keysI b)) : a.Perm b := by
  have na : a.Nodup := by unfold keysI at ha; exact List.Pairwise.imp (fun h e => h (by rw [e])) (List.pairwise_map.1 ha)
  have nb : b.Nodup := by unfold keysI at hb; exact List.Pairwise.imp (fun h e => h (by rw [e])) (List.pairwise_map.1 hb)
  refine (List.perm_ext_iff_of_nodup na nb).2 fun c => ⟨hs c, fun hc => ?_⟩
  have h1 : c.1 ∈ keysI a := hk.mem_iff.2 (List.mem_map.2 ⟨c, hc, rfl⟩)
  obtain ⟨c', hc', e⟩ := List.mem_map.1 h1
  have h2 := hs c' hc'
  have : c' = c := by
    unfold keysI at hb
    clear h1 hk hs ha na hc'
    revert hb nb h2 hc
    induction b with
    | nil => intro hb nb hc; cases hc
    | cons x xs ih =>
      intro hb nb hc h2
      obtain ⟨hx, hxs⟩ := List.nodup_cons.1 hb
      rcases List.mem_cons.1 h2 with ea | h3
      · rcases List.mem_cons.1 hc with eb | hc2
        · rw [ea, eb]
        · exact absurd (List.mem_map.2 ⟨c, hc2, by rw [← e, ea]⟩) hx
      · rcases List.mem_cons.1 hc with eb | hc2
        · exact absurd (List.mem_map.2 ⟨c', h3, by rw [e, eb]⟩) hx
        · exact ih hxs (List.nodup_cons.1 nb).2 hc2 h3
  exact this ▸ hc'
set_option maxRecDepth 10000 in
set_option maxHeartbeats 8000000 in
theorem ofT_some (w : World) (k : Nat) (ch : PIn) (h : RIn w k ch) (hd : (keysI ch).Nodup) (hl : ch.length ≤ 16) (h32 : ∀ c ∈ ch, c.2.1.length = 32 ∧ Byt c.2.1) (d : List Int) (hd32 : d.length = 32) (hdb : Byt d) :
    Calls Tryd.prog 24 #[.map (some k), .agg (bc d).toArray] w fun e w' => ∃ v' zs, e = .returned v' ∧ zs.Perm (vts ch d) ∧ RL RVote 2 Any w' v' zs ∧ Below w.heap.size w w' := by
  obtain ⟨l, hm, hA⟩ := h
  have hkeys := RIn.keys hA
  obtain ⟨es0, clock, hb0, hE, hle⟩ := hm.ens (by rw [hkeys]; exact hd)
  have hkl := hm.lt
  obtain ⟨w1, hw1⟩ : ∃ w1, w1 = w.alloc (.cells (bc d).toArray 60) := ⟨_, rfl⟩
  have B1 : Below w.heap.size w w1 := by rw [hw1]; exact below_alloc _ _
  have R1 : Row w1 w.heap.size 60 (bc d) := by rw [hw1]; exact Row.new _ _ _
  have hs1 : w.heap.size < w1.heap.size := by rw [hw1]; simp
  have hb1 : w1.heap[k]? = some (.map es0.toArray clock) := (B1.block k hkl).trans hb0
  have hrg := run_range_map (P := Tryd.prog) w1 59 _ _ k es0.toArray clock Tryd.underlying59 hb1
  have hI := IR.start hb1
  have B2 := below_alloc w1 (.mapIter (some k) clock #[] clock)
  have hlt2 : w1.heap.size < (w1.alloc (.mapIter (some k) clock #[] clock)).heap.size := by simp
  have HW := (show Hid (∀ e ∈ es0, ∃ c ∈ ch, unK e.key = c.1 ∧ ∃ sg, e.val = .agg (bc c.2.1 ++ [sg]).toArray ∧ RT Any w sg c.2.2) from fun e he => by
    have hm2 : (e.key, e.val) ∈ es0.map (fun e => (e.key, e.val)) := List.mem_map.2 ⟨e, he, rfl⟩
    rw [hle] at hm2
    obtain ⟨z, hz, hze⟩ := List.mem_map.1 hm2
    obtain ⟨c, hc, h1, sg, h2, h3⟩ := All2.find hA hz
    injection hze with e1 e2
    exact ⟨c, hc, by rw [← e1]; exact h1, sg, by rw [← e2]; exact h2, h3⟩)
  have HK := (show Hid (es0.map (fun e => unK e.key) = keysI ch) from by
    have := congrArg (List.map (fun x : Value × Value => unK x.1)) hle
    simp only [List.map_map, Function.comp_def] at this
    rw [← hkeys]
    exact this)
  have HD := (show Hid ((keysI ch).Nodup ∧ ch.length ≤ 16) from ⟨hd, hl⟩)
  have H32 := (show Hid (∀ c ∈ ch, c.2.1.length = 32 ∧ Byt c.2.1) from h32)
  have hi32 : (Tryd.prog.info? 60).map (·.size) = some (bc d).length := by rw [bc_len, hd32]; kernel_rfl
  have HDB := (show Hid (d.length = 32 ∧ Byt d) from ⟨hd32, hdb⟩)
  have HE := (show Hid (En es0 clock) from hE)
  clear hA hkeys hm hle hb0 hd hl h32 hE hd32 hdb
  go_enter Tryd.func24, Tryd.ntmps24
  go_upto_region 2 with fail
  rw [← hw1]
  clear hw1
  go_upto_region 3 with fail
  clear hrg
  generalize hw2 : w1.alloc (.mapIter (some k) clock #[] clock) = w2 at *
  clear hw2
  go_loopw [5, 6] (fun o s wr => ∃ (dn : List MapEntry) (out : PIn), IR wr k w1.heap.size es0 clock dn ∧ Hid (dn.map (fun e => unK e.key) = keysI out ∧ ∀ c ∈ out, c ∈ ch) ∧ LB (RVa w) 28 2 (w1.heap.size + 1) wr o (vts out d) ∧ Below w1.heap.size w1 wr ∧ w1.heap.size < wr.heap.size) (fun _ _ wr => wr.rangeLeft k w1.heap.size)
  case atStart => exact ⟨[], [], hI, ⟨rfl, fun c hc => by cases hc⟩, LB.nil _ _ _ _ _, B2, hlt2⟩
  case round =>
    clear hI hlt2 B2
    obtain ⟨dn, out, hi, hD, hL, hB, hlt⟩ := hrel
    obtain ⟨la, lc, rfl⟩ := hL.fmT
    go_upto_region 4 with (at_next; refine wl_nextR rfl _ rfl HE.out hi rfl (fun hall => ?_) (fun e q v w3 he hne hk hv hi3 hg3 hen => ?_); (replace hall := (show Hid _ from hall)); rotate_left; (replace he := (show Hid _ from he); replace hne := (show Hid _ from hne)); rotate_left)
    · go_ret
      refine ⟨_, vts out d, rfl, ?_, RL.ofVa hL (B1.trans (hB.mono (by omega))), B1.trans (hB.mono (by omega))⟩
      refine vts_perm (perm_keys ?_ HD.out.1 hD.out.2 ?_) d
      · rw [← hD.out.1]
        have := (hall.out.map (fun e => unK e.key))
        rw [HK.out] at this
        exact this.nodup_iff.2 HD.out.1
      · rw [← hD.out.1, ← HK.out]
        exact hall.out.map _
    · have hI3 := (show Hid (wr.rangeLeft k w1.heap.size > w3.rangeLeft k w1.heap.size) from hi.less hi3 he.out hne.out)
      obtain ⟨c, hc, hq1, sg, hq2, hq3⟩ := HW.out e he.out
      have hq : q = c.1 := by rw [← hq1, hk.out]; rfl
      subst hq
      have hv2 : v = .agg (bc c.2.1 ++ [sg]).toArray := by rw [← hv.out]; exact hq2
      subst hv2
      obtain ⟨sa, sc, rfl, _⟩ := hq3.form
      have hL3 := hL.grown (mov_va w) hg3 (by omega)
      have hB3 : Below w1.heap.size w1 w3 := hB.trans (grown_below hg3 hB.size (fun k hk => by cases hk; exact Nat.le_refl _))
      have hD3 := (show Hid ((dn ++ [e]).map (fun e => unK e.key) = keysI (out ++ [c]) ∧ ∀ x ∈ out ++ [c], x ∈ ch) from ⟨by rw [List.map_append, hD.out.1]; unfold keysI; rw [List.map_append]; simp [hq1], fun x hx => by
        rcases List.mem_append.1 hx with hx | hx
        · exact hD.out.2 x hx
        · simp at hx
          exact hx ▸ hc⟩)
      have hol : (vts out d).length ≤ 1000 := by
        have h1 := vts_len out d
        have h2 : out.length ≤ ch.length := by
          have h3 : (keysI out).Nodup := by
            rw [← hD.out.1]
            refine List.Nodup.sublist (List.Sublist.refl _) ?_
            have h4 : dn.Nodup := List.Pairwise.imp (fun hab e => hab (by rw [e])) (List.pairwise_map.1 hi.dup)
            have h5 := HE.out.dup
            refine List.pairwise_map.2 (List.Pairwise.imp_of_mem (fun {a b} ha hb hab e2 => hab ?_) h4)
            exact key_one HE.out (hi.sub a ha) (hi.sub b hb) e2
          have h6 := len_of_sub (keysI out) (keysI ch) h3 (fun x hx => by
            obtain ⟨y, hy, rfl⟩ := List.mem_map.1 hx
            exact List.mem_map.2 ⟨y, hD.out.2 y hy, rfl⟩)
          simpa [keysI] using h6
        have := HD.out.2
        omega
      have hlt3 : w1.heap.size < w3.heap.size := Nat.lt_of_lt_of_le hlt hg3.size
      obtain ⟨c32, cbt⟩ := H32.out c hc
      have hR0 := Row.new w3 63 [.int .u8 0, .int .u8 0, .int .u8 0, .int .u8 0, .int .u8 0, .int .u8 0, .int .u8 0, .int .u8 0, .int .u8 0, .int .u8 0, .int .u8 0, .int .u8 0, .int .u8 0, .int .u8 0, .int .u8 0, .int .u8 0, .int .u8 0, .int .u8 0, .int .u8 0, .int .u8 0, .int .u8 0, .int .u8 0, .int .u8 0, .int .u8 0, .int .u8 0, .int .u8 0, .int .u8 0, .int .u8 0, .int .u8 0, .int .u8 0, .int .u8 0, .int .u8 0, .slice none 0 0]
      have hBz := below_alloc w3 (.cells #[.int .u8 0, .int .u8 0, .int .u8 0, .int .u8 0, .int .u8 0, .int .u8 0, .int .u8 0, .int .u8 0, .int .u8 0, .int .u8 0, .int .u8 0, .int .u8 0, .int .u8 0, .int .u8 0, .int .u8 0, .int .u8 0, .int .u8 0, .int .u8 0, .int .u8 0, .int .u8 0, .int .u8 0, .int .u8 0, .int .u8 0, .int .u8 0, .int .u8 0, .int .u8 0, .int .u8 0, .int .u8 0, .int .u8 0, .int .u8 0, .int .u8 0, .int .u8 0, .slice none 0 0] 63)
      have h33 : (bc c.2.1 ++ [Value.slice sa c.2.2.length sc]).length = 33 := by rw [List.length_append, bc_len, c32]; rfl
      have hi33 : (Tryd.prog.info? 63).map (·.size) = some (bc c.2.1 ++ [Value.slice sa c.2.2.length sc]).length := by rw [h33]; kernel_rfl
      have hone : ∀ v ∈ bc c.2.1 ++ [Value.slice sa c.2.2.length sc], v.oneCell' = true := fun v hv => by
        rcases List.mem_append.1 hv with hv | hv
        · exact bc_one _ v hv
        · simp at hv
          subst hv
          exact hq3.one
      clear hL hi hB hlt hq1 hq2 hg3 hv hk he hne hD
      go_upto_region 5 with (refine wl_store rfl _ _ _ rfl w3.heap.size (bc c.2.1 ++ [Value.slice sa c.2.2.length sc]) rfl rfl _ _ hR0 (by rw [h33]; rfl) hi33 hone ?_; intro w5 r5 g5)
      have r5 := r5.out
      have b5 : Below w3.heap.size w3 w5 := hBz.trans (grown_below g5 hBz.size (fun k hk => by cases hk; exact Nat.le_refl _))
      have hs5 : w3.heap.size < w5.heap.size := r5.lt
      have hL5 := hL3.below (mov_va w) b5
      have hB5 := hB3.trans (b5.mono (by omega))
      have hi5 := hi3.below b5
      have hI5 := (show Hid (wr.rangeLeft k w1.heap.size > w5.rangeLeft k w1.heap.size) from by
        have := hI3.out
        rw [hi3.left] at this
        show _ < _
        rw [hi5.left]
        exact this)
      have R5 := R1.below hB5
      have hmid := Row.midT r5 0 (ys := bc c.2.1) (by rw [List.drop_zero, List.take_left])
      have hc32 : (Tryd.prog.info? 60).map (·.size) = some (bc c.2.1).length := by rw [bc_len, c32]; kernel_rfl
      have hsg := r5.cell (j := 32) (u := Value.slice sa c.2.2.length sc) (by
        have h9 : (bc c.2.1).length = 32 := by rw [bc_len, c32]
        rw [List.getElem?_append_right (by omega), h9]
        rfl)
      have HDQ := (show Hid (∀ u : World, _) from fun u : World => digEq u c32 HDB.out.1 cbt HDB.out.2)
      have hqs := vts_snoc out c d
      generalize w3.heap.size = N3 at *
      clear hL3 hB3 hi3 hI3 hR0 hBz g5 b5 r5
      by_cases hcd : c.2.1 = d
      · rw [if_pos hcd] at hqs
        have hdq : ∀ u : World, (binOp .eql 60 (.agg (bc c.2.1).toArray) (.agg (bc d).toArray)).run Tryd.prog u = .ok (.bool true) u := fun u => by rw [HDQ.out u, decide_eq_true hcd]
        have HC := (show Hid (vts (out ++ [c]) d = vts out d ++ [(c.1, c.2.2)]) from hqs)
        clear hqs hcd HDQ
        have hLlt := hL5.lt
        have hBN : w1.heap.size + 1 ≤ w5.heap.size := by omega
        have hbnd : ((vts out d).length + 1) * 32 ≤ 140737488355328 := by omega
        go_wp2_with (first
          | (refine wpList_load_mid rfl _ _ rfl N3 0 rfl (bc c.2.1) _ hmid Tryd.underlying60 rfl hc32 ?_)
          | (refine wl_load rfl _ _ rfl w.heap.size rfl _ _ R5 _ Tryd.underlying60 rfl hi32 ?_)
          | (at_builtin; go_loud (refine wl_push (mov_va w) rfl _ _ _ rfl 28 2 32 _ Tryd.underlying32 Tryd.infVoteS rfl (by decide) (w1.heap.size + 1) (.slice la (vts out d).length lc) (vts out d) rfl hL5 [.int .i64 c.1, Value.slice sa c.2.2.length sc] (c.1, c.2.2) w5.heap.size ⟨Value.slice sa c.2.2.length sc, rfl, hq3⟩ rfl (fun u hu => by simp only [List.mem_cons, List.not_mem_nil, or_false] at hu; rcases hu with rfl | rfl; rfl; exact hq3.one) hBN hLlt rfl hBN hbnd (by decide) ?_; intro v7 w7 hL7 g7)))
        go_roundw
        case rel => 
          have hne2 : ∀ j, (Value.slice la (vts out d).length lc).ownBlock = some j → w1.heap.size + 1 ≤ j := hL5.fr
          refine ⟨_, out ++ [c], hi5.grown g7 (fun e => by have := hne2 _ e; omega) (fun e => by have := hne2 _ e; omega), hD3, ?_, hB5.trans (grown_below g7 (by omega) (fun k hk => by have := hne2 k hk; omega)), Nat.lt_of_lt_of_le (by omega) g7.size⟩
          rw [HC.out]
          exact hL7
        case measure =>
          have hne2 : ∀ j, (Value.slice la (vts out d).length lc).ownBlock = some j → w1.heap.size + 1 ≤ j := hL5.fr
          have h1 := hi5.left
          have h2 := (hi5.grown g7 (fun e => by have := hne2 _ e; omega) (fun e => by have := hne2 _ e; omega)).left
          rw [h2, ← h1]
          exact hI5.out
      · rw [if_neg hcd, List.append_nil] at hqs
        have hdq : ∀ u : World, (binOp .eql 60 (.agg (bc c.2.1).toArray) (.agg (bc d).toArray)).run Tryd.prog u = .ok (.bool false) u := fun u => by rw [HDQ.out u, decide_eq_false hcd]
        have HC := (show Hid (vts (out ++ [c]) d = vts out d) from hqs)
        clear hqs hcd HDQ
        go_wp2_with (first
          | (refine wpList_load_mid rfl _ _ rfl N3 0 rfl (bc c.2.1) _ hmid Tryd.underlying60 rfl hc32 ?_)
          | (refine wl_load rfl _ _ rfl w.heap.size rfl _ _ R5 _ Tryd.underlying60 rfl hi32 ?_))
        go_roundw
        case rel => exact ⟨_, out ++ [c], hi5, hD3, by rw [HC.out]; exact hL5, hB5, by omega⟩
        case measure => exact hI5.out
end
section
open Go.RowKit Oct Stb MI Bal Sha
theorem isR_no {n s : Int} {d : List Int} {v : PVote} (h : ¬ (rgt n = true ∧ d.length = 32 ∧ 0 ≤ v.1 ∧ v.1 < n)) : isR n s d v = false := by
  unfold isR
  by_cases h1 : rgt n = true
  · by_cases h2 : d.length = 32
    · by_cases h3 : 0 ≤ v.1
      · have h4 : ¬ v.1 < n := fun h4 => h ⟨h1, h2, h3, h4⟩
        simp [h4]
      · simp [h3]
    · simp [h2]
  · simp [h1]
set_option maxRecDepth 10000 in
set_option maxHeartbeats 4000000 in
theorem isR_any {b m : Nat} {n cut : Int} {tl : PTl} (w : World) (h : Tly w b m n cut tl) (s : Int) (dv : Value) (d : List Int) (hd : Rd w dv d) (i : Int) (gv : Value) (g : List Int) (hg : Rd w gv g) (hT : Tab w) :
    Calls Tryd.prog 22 #[.pointer (some ⟨b, 0, none⟩), .int .i64 s, dv, .agg #[.int .i64 i, gv]] w fun e w' => e = .returned (.bool (isR n s d (i, g))) ∧ Below w.heap.size w w' := by
  obtain ⟨da, dc, rfl, _⟩ := hd.form
  obtain ⟨ga, gc, rfl, _⟩ := hg.form
  obtain ⟨w1, hw1⟩ : ∃ u, u = w.alloc (.cells #[.int .i64 i, .slice ga g.length gc] 28) := ⟨_, rfl⟩
  have r1 : Row w1 w.heap.size 28 [.int .i64 i, .slice ga g.length gc] := by rw [hw1]; exact Row.new _ _ _
  have b1 : Below w.heap.size w w1 := by rw [hw1]; exact below_alloc _ _
  have t1 := (h.below b1).row
  have HC := (show Hid (∀ u, Below w1.heap.size w1 u → Row u b 56 [.int .i64 n, .int .i64 cut, .map (some m)] ∧ Row u w.heap.size 28 [.int .i64 i, .slice ga g.length gc]) from fun u hu => ⟨t1.below hu, r1.below hu⟩)
  have HRT := (show Hid (∀ u : World, Calls Tryd.prog 15 #[.int .i64 n] u fun e w' => e = .returned (.bool (rgt n)) ∧ w' = u) from fun u => Bb.right_any u n)
  have HVR := (show Hid (d.length = 32 → ∀ u, Below w1.heap.size w1 u → Calls Tryd.prog 27 #[.int .i64 10, .agg #[.int .i64 0, .int .i64 0], .int .i64 s, .slice da d.length dc, .agg #[.int .i64 i, .slice ga g.length gc]] u fun e w' => e = .returned (.bool (rgtC s d (i, g))) ∧ Below u.heap.size u w') from fun h32 u hu => vRight_any u 10 0 0 s i _ d (hd.below (below_and b1 (Nat.le_refl _) hu)) (by omega) _ g (hg.below (below_and b1 (Nat.le_refl _) hu)) (hT.below (below_and b1 (Nat.le_refl _) hu)))
  have k0 := t1.cell (j := 0) rfl
  have k1 := r1.cell (j := 0) rfl
  clear h t1 r1 hd hg hT
  by_cases hr : rgt n = true
  case neg =>
    rw [isR_no (fun h => hr h.1)]
    have hr' : rgt n = false := by simpa using hr
    rw [hr'] at HRT
    clear hr hr'
    go_enter Tryd.func22, Tryd.ntmps22
    go_upto_region 1 with fail
    rw [← hw1]
    clear hw1
    go_quiet ((go_at_call 15; exact Calls.quiet_of_same (HRT.out _)))
    go_wp2_with fail
    go_ret
    exact ⟨rfl, b1.trans ⟨rfl, rfl, rfl, Nat.le_refl _, fun _ _ => rfl⟩⟩
  have hr4 := rgt_le hr
  rw [hr] at HRT
  by_cases hl2 : d.length = 32
  case neg =>
    rw [isR_no (fun h => hl2 h.2.1)]
    have d1 : ((d.length : Int) == 32) = false := by simp; omega
    clear hr
    go_enter Tryd.func22, Tryd.ntmps22
    go_upto_region 1 with fail
    rw [← hw1]
    clear hw1
    go_quiet ((go_at_call 15; exact Calls.quiet_of_same (HRT.out _)))
    go_wp2_with fail
    go_ret
    exact ⟨rfl, b1.trans ⟨rfl, rfl, rfl, Nat.le_refl _, fun _ _ => rfl⟩⟩
  have d1 : ((d.length : Int) == 32) = true := by simp; omega
  by_cases h0 : 0 ≤ i
  case neg =>
    rw [isR_no (fun h => h0 h.2.2.1)]
    have d2 : decide (0 ≤ i) = false := by simpa using h0
    clear hr
    go_enter Tryd.func22, Tryd.ntmps22
    go_upto_region 1 with fail
    rw [← hw1]
    clear hw1
    go_quiet ((go_at_call 15; exact Calls.quiet_of_same (HRT.out _)))
    go_wp2_with fail
    go_ret
    exact ⟨rfl, b1.trans ⟨rfl, rfl, rfl, Nat.le_refl _, fun _ _ => rfl⟩⟩
  have d2 : decide (0 ≤ i) = true := by simpa using h0
  by_cases hn : i < n
  case neg =>
    rw [isR_no (fun h => hn h.2.2.2)]
    have d3 : decide (i < n) = false := by simpa using hn
    clear hr
    go_enter Tryd.func22, Tryd.ntmps22
    go_upto_region 1 with fail
    rw [← hw1]
    clear hw1
    go_quiet ((go_at_call 15; exact Calls.quiet_of_same (HRT.out _)))
    go_wp2_with fail
    go_ret
    exact ⟨rfl, b1.trans ⟨rfl, rfl, rfl, Nat.le_refl _, fun _ _ => rfl⟩⟩
  have d3 : decide (i < n) = true := by simpa using hn
  have hR : isR n s d (i, g) = rgtC s d (i, g) := by
    unfold isR
    rw [hr, decide_eq_true hl2, decide_eq_true h0, decide_eq_true hn]
    rfl
  rw [hR]
  have HVR := (show Hid (∀ u, _) from HVR.out hl2)
  clear hR hr hl2 h0 hn
  generalize rgtC s d (i, g) = cv at *
  have B0 : Below w1.heap.size w1 w1.drew := ⟨rfl, rfl, rfl, Nat.le_refl _, fun _ _ => rfl⟩
  have hbz : ∀ u, (Instr.build 39 #[]).run Tryd.prog u = .ok (.agg #[.int .i64 0, .int .i64 0]) u := fun u => by kernel_rfl
  go_enter Tryd.func22, Tryd.ntmps22
  go_upto_region 1 with fail
  rw [← hw1]
  clear hw1
  try go_simp
  refine wp_region_held_drew (S := fun u => Below w1.heap.size w1 u) (by kernel_rfl) B0 (fun hHeld => ?_)
  clear hHeld
  refine wpAnyH_take (i := 0) (v := .pointer (some ⟨b, 0, none⟩)) rfl (by kernel_rfl) (by kernel_rfl) (by kernel_rfl) (fun _ _ _ h => h) (Or.inl ⟨by kernel_rfl, fun u hSu => by go_simp⟩) B0 ?_
  simp only [Act.put, List.setIfInBounds_toArray, List.set_cons_zero, List.set_cons_succ]
  refine wpAnyH_take (i := 1) (v := .pointer (some ⟨b, 0, none⟩)) rfl (by kernel_rfl) (by kernel_rfl) (by kernel_rfl) (fun _ _ _ h => h) (Or.inl ⟨by kernel_rfl, fun u hSu => by go_simp⟩) B0 ?_
  simp only [Act.put, List.setIfInBounds_toArray, List.set_cons_zero, List.set_cons_succ]
  refine wpAnyH_take (i := 2) (v := .pointer (some ⟨b, 0, none⟩)) rfl (by kernel_rfl) (by kernel_rfl) (by kernel_rfl) (fun _ _ _ h => h) (Or.inl ⟨by kernel_rfl, fun u hSu => by go_simp⟩) B0 ?_
  simp only [Act.put, List.setIfInBounds_toArray, List.set_cons_zero, List.set_cons_succ]
  refine wpAnyH_take (i := 3) (v := .int .i64 n) rfl (by kernel_rfl) (by kernel_rfl) (by kernel_rfl) (fun _ _ _ h => h) (Or.inl ⟨by kernel_rfl, fun u hSu => by have hck := ((HC.out u hSu).1).cell (j := 0) rfl; go_simp⟩) B0 ?_
  simp only [Act.put, List.setIfInBounds_toArray, List.set_cons_zero, List.set_cons_succ]
  refine wpAnyH_ready (rs := [4]) (by kernel_rfl) (by simp) ?_
  refine AllReadyH.cons (o := _) rfl (fun K hK => ?_) AllReadyH.nil
  go_simp
  refine (HRT.out _).mono ?_
  rintro e w3 ⟨rfl, rfl⟩
  try go_simp
  refine hK.out _ _ B0 (fun hHeld => ?_)
  clear hK K hHeld
  refine wpAnyH_take (i := 5) (v := .bool true) rfl (by kernel_rfl) (by kernel_rfl) (by kernel_rfl) (fun _ _ _ h => h) (Or.inl ⟨by kernel_rfl, fun u hSu => by go_simp⟩) B0 ?_
  simp only [Act.put, List.setIfInBounds_toArray, List.set_cons_zero, List.set_cons_succ]
  refine wpAnyH_take (i := 6) (v := .slice da d.length dc) rfl (by kernel_rfl) (by kernel_rfl) (by kernel_rfl) (fun _ _ _ h => h) (Or.inl ⟨by kernel_rfl, fun u hSu => by go_simp⟩) B0 ?_
  simp only [Act.put, List.setIfInBounds_toArray, List.set_cons_zero, List.set_cons_succ]
  refine wpAnyH_take (i := 7) (v := .int .i64 d.length) rfl (by kernel_rfl) (by kernel_rfl) (by kernel_rfl) (fun _ _ _ h => h) (Or.inl ⟨by kernel_rfl, fun u hSu => by go_simp⟩) B0 ?_
  simp only [Act.put, List.setIfInBounds_toArray, List.set_cons_zero, List.set_cons_succ]
  refine wpAnyH_take (i := 8) (v := .bool true) rfl (by kernel_rfl) (by kernel_rfl) (by kernel_rfl) (fun _ _ _ h => h) (Or.inl ⟨by kernel_rfl, fun u hSu => by go_simp⟩) B0 ?_
  simp only [Act.put, List.setIfInBounds_toArray, List.set_cons_zero, List.set_cons_succ]
  refine wpAnyH_take (i := 9) (v := .bool true) rfl (by kernel_rfl) (by kernel_rfl) (by kernel_rfl) (fun _ _ _ h => h) (Or.inl ⟨by kernel_rfl, fun u hSu => by go_simp⟩) B0 ?_
  simp only [Act.put, List.setIfInBounds_toArray, List.set_cons_zero, List.set_cons_succ]
  refine wpAnyH_take (i := 10) (v := .bool true) rfl (by kernel_rfl) (by kernel_rfl) (by kernel_rfl) (fun _ _ _ h => h) (Or.inl ⟨by kernel_rfl, fun u hSu => by go_simp⟩) B0 ?_
  simp only [Act.put, List.setIfInBounds_toArray, List.set_cons_zero, List.set_cons_succ]
  refine wpAnyH_take (i := 11) (v := .pointer (some ⟨w.heap.size, 0, none⟩)) rfl (by kernel_rfl) (by kernel_rfl) (by kernel_rfl) (fun _ _ _ h => h) (Or.inl ⟨by kernel_rfl, fun u hSu => by go_simp⟩) B0 ?_
  simp only [Act.put, List.setIfInBounds_toArray, List.set_cons_zero, List.set_cons_succ]
  refine wpAnyH_take (i := 12) (v := .int .i64 i) rfl (by kernel_rfl) (by kernel_rfl) (by kernel_rfl) (fun _ _ _ h => h) (Or.inl ⟨by kernel_rfl, fun u hSu => by have hck := ((HC.out u hSu).2).cell (j := 0) rfl; go_simp⟩) B0 ?_
  simp only [Act.put, List.setIfInBounds_toArray, List.set_cons_zero, List.set_cons_succ]
  refine wpAnyH_take (i := 13) (v := .bool true) rfl (by kernel_rfl) (by kernel_rfl) (by kernel_rfl) (fun _ _ _ h => h) (Or.inl ⟨by kernel_rfl, fun u hSu => by go_simp⟩) B0 ?_
  simp only [Act.put, List.setIfInBounds_toArray, List.set_cons_zero, List.set_cons_succ]
  refine wpAnyH_take (i := 14) (v := .bool true) rfl (by kernel_rfl) (by kernel_rfl) (by kernel_rfl) (fun _ _ _ h => h) (Or.inl ⟨by kernel_rfl, fun u hSu => by go_simp⟩) B0 ?_
  simp only [Act.put, List.setIfInBounds_toArray, List.set_cons_zero, List.set_cons_succ]
  refine wpAnyH_take (i := 15) (v := .bool true) rfl (by kernel_rfl) (by kernel_rfl) (by kernel_rfl) (fun _ _ _ h => h) (Or.inl ⟨by kernel_rfl, fun u hSu => by go_simp⟩) B0 ?_
  simp only [Act.put, List.setIfInBounds_toArray, List.set_cons_zero, List.set_cons_succ]
  refine wpAnyH_take (i := 16) (v := .pointer (some ⟨w.heap.size, 0, none⟩)) rfl (by kernel_rfl) (by kernel_rfl) (by kernel_rfl) (fun _ _ _ h => h) (Or.inl ⟨by kernel_rfl, fun u hSu => by go_simp⟩) B0 ?_
  simp only [Act.put, List.setIfInBounds_toArray, List.set_cons_zero, List.set_cons_succ]
  refine wpAnyH_take (i := 17) (v := .int .i64 i) rfl (by kernel_rfl) (by kernel_rfl) (by kernel_rfl) (fun _ _ _ h => h) (Or.inl ⟨by kernel_rfl, fun u hSu => by have hck := ((HC.out u hSu).2).cell (j := 0) rfl; go_simp⟩) B0 ?_
  simp only [Act.put, List.setIfInBounds_toArray, List.set_cons_zero, List.set_cons_succ]
  refine wpAnyH_take (i := 18) (v := .pointer (some ⟨b, 0, none⟩)) rfl (by kernel_rfl) (by kernel_rfl) (by kernel_rfl) (fun _ _ _ h => h) (Or.inl ⟨by kernel_rfl, fun u hSu => by go_simp⟩) B0 ?_
  simp only [Act.put, List.setIfInBounds_toArray, List.set_cons_zero, List.set_cons_succ]
  refine wpAnyH_take (i := 19) (v := .pointer (some ⟨b, 0, none⟩)) rfl (by kernel_rfl) (by kernel_rfl) (by kernel_rfl) (fun _ _ _ h => h) (Or.inl ⟨by kernel_rfl, fun u hSu => by go_simp⟩) B0 ?_
  simp only [Act.put, List.setIfInBounds_toArray, List.set_cons_zero, List.set_cons_succ]
  refine wpAnyH_take (i := 20) (v := .pointer (some ⟨b, 0, none⟩)) rfl (by kernel_rfl) (by kernel_rfl) (by kernel_rfl) (fun _ _ _ h => h) (Or.inl ⟨by kernel_rfl, fun u hSu => by go_simp⟩) B0 ?_
  simp only [Act.put, List.setIfInBounds_toArray, List.set_cons_zero, List.set_cons_succ]
  refine wpAnyH_take (i := 21) (v := .int .i64 n) rfl (by kernel_rfl) (by kernel_rfl) (by kernel_rfl) (fun _ _ _ h => h) (Or.inl ⟨by kernel_rfl, fun u hSu => by have hck := ((HC.out u hSu).1).cell (j := 0) rfl; go_simp⟩) B0 ?_
  simp only [Act.put, List.setIfInBounds_toArray, List.set_cons_zero, List.set_cons_succ]
  refine wpAnyH_take (i := 22) (v := .bool true) rfl (by kernel_rfl) (by kernel_rfl) (by kernel_rfl) (fun _ _ _ h => h) (Or.inl ⟨by kernel_rfl, fun u hSu => by go_simp⟩) B0 ?_
  simp only [Act.put, List.setIfInBounds_toArray, List.set_cons_zero, List.set_cons_succ]
  refine wpAnyH_take (i := 23) (v := .bool true) rfl (by kernel_rfl) (by kernel_rfl) (by kernel_rfl) (fun _ _ _ h => h) (Or.inl ⟨by kernel_rfl, fun u hSu => by go_simp⟩) B0 ?_
  simp only [Act.put, List.setIfInBounds_toArray, List.set_cons_zero, List.set_cons_succ]
  refine wpAnyH_take (i := 24) (v := .bool true) rfl (by kernel_rfl) (by kernel_rfl) (by kernel_rfl) (fun _ _ _ h => h) (Or.inl ⟨by kernel_rfl, fun u hSu => by go_simp⟩) B0 ?_
  simp only [Act.put, List.setIfInBounds_toArray, List.set_cons_zero, List.set_cons_succ]
  refine wpAnyH_take (i := 25) (v := .agg #[.int .i64 0, .int .i64 0]) rfl (by kernel_rfl) (by kernel_rfl) (by kernel_rfl) (fun _ _ _ h => h) (Or.inl ⟨by kernel_rfl, fun u hSu => by go_simp⟩) B0 ?_
  simp only [Act.put, List.setIfInBounds_toArray, List.set_cons_zero, List.set_cons_succ]
  refine wpAnyH_take (i := 26) (v := .int .i64 s) rfl (by kernel_rfl) (by kernel_rfl) (by kernel_rfl) (fun _ _ _ h => h) (Or.inl ⟨by kernel_rfl, fun u hSu => by go_simp⟩) B0 ?_
  simp only [Act.put, List.setIfInBounds_toArray, List.set_cons_zero, List.set_cons_succ]
  refine wpAnyH_take (i := 27) (v := .slice da d.length dc) rfl (by kernel_rfl) (by kernel_rfl) (by kernel_rfl) (fun _ _ _ h => h) (Or.inl ⟨by kernel_rfl, fun u hSu => by go_simp⟩) B0 ?_
  simp only [Act.put, List.setIfInBounds_toArray, List.set_cons_zero, List.set_cons_succ]
  refine wpAnyH_take (i := 28) (v := .agg #[.int .i64 i, .slice ga g.length gc]) rfl (by kernel_rfl) (by kernel_rfl) (by kernel_rfl) (fun _ _ _ h => h) (yieldsIf_load_mid (by kernel_rfl) _ _ rfl w.heap.size 0 (by go_simp) [.int .i64 i, .slice ga g.length gc] _ (fun u hSu => Row.midT (HC.out u hSu).2 0 rfl) Tryd.underlying28 rfl (by kernel_rfl)) B0 ?_
  simp only [Act.put, List.setIfInBounds_toArray, List.set_cons_zero, List.set_cons_succ]
  refine wpAnyH_ready (rs := [29]) (by kernel_rfl) (by simp) ?_
  refine AllReadyH.cons (o := _) rfl (fun K hK => ?_) AllReadyH.nil
  go_simp
  refine (HVR.out _ B0).mono ?_
  rintro e w4 ⟨rfl, b4⟩
  have B4 := below_and B0 (Nat.le_refl _) b4
  try go_simp
  refine hK.out _ _ B4 (fun hHeld => ?_)
  clear hK K hHeld
  refine wpAnyH_take (i := 30) (v := .bool cv) rfl (by kernel_rfl) (by kernel_rfl) (by kernel_rfl) (fun _ _ _ h => h) (Or.inl ⟨by kernel_rfl, fun u hSu => by go_simp⟩) B4 ?_
  simp only [Act.put, List.setIfInBounds_toArray, List.set_cons_zero, List.set_cons_succ]
  refine wpAnyH_ready (rs := [31]) (by kernel_rfl) (by simp) ?_
  refine AllReadyH.cons (o := _) rfl (fun K hK => ?_) AllReadyH.nil
  go_simp
  refine hK.out _ _ B4 (fun hHeld => ?_)
  clear hK K hHeld
  refine wpAnyH_done (by kernel_rfl) ?_ _
  go_wp2_with fail
  go_ret
  exact ⟨rfl, below_and b1 (Nat.le_refl _) B4⟩
end
section
open Go.RowKit Oct Stb MI Bal Sha
def midT (tl : PTl) (s : Int) (nb : Nat) : PTl := if (fnd s (keysT tl)).isNone = true then tl ++ [(s, nb, [])] else tl
def appT : PTl → Int → (Int × PCh) → PTl
  | [], _, _ => []
  | y :: ys, s, c => if s = y.1 then (y.1, y.2.1, y.2.2 ++ [c]) :: ys else y :: appT ys s c
theorem app_mid : ∀ (tl : PTl) (s : Int) (nb : Nat) (c : Int × PCh), appT (midT tl s nb) s c = putT tl s nb c.1 c.2
  | [], s, nb, c => by simp [midT, keysT, fnd, appT, putT]
  | y :: ys, s, nb, c => by
    have e0 : fnd s (keysT (y :: ys)) = if s = y.1 then some 0 else (fnd s (keysT ys)).map (· + 1) := rfl
    have ih := app_mid ys s nb c
    unfold midT at ih ⊢
    rw [e0]
    unfold putT
    by_cases e : s = y.1
    · rw [if_pos e, if_pos e]
      simp [appT, e]
    · rw [if_neg e, if_neg e]
      cases hf : fnd s (keysT ys) with
      | none =>
        rw [hf] at ih
        simp only [Option.isNone_none, if_true, Option.map_none] at ih ⊢
        simp only [List.cons_append, appT, if_neg e]
        rw [ih]
      | some j =>
        rw [hf] at ih
        have ih : appT ys s c = putT ys s nb c.1 c.2 := by simpa using ih
        have e2 : (Option.map (· + 1) (some j)).isNone = false := rfl
        rw [if_neg (by rw [e2]; decide)]
        simp only [appT, if_neg e]
        rw [ih]
theorem app_ent : ∀ (tl : PTl) (s : Int) (c : Int × PCh), entT (appT tl s c) = entT tl ∧ blkT (appT tl s c) = blkT tl ∧ keysT (appT tl s c) = keysT tl
  | [], s, c => ⟨rfl, rfl, rfl⟩
  | y :: ys, s, c => by
    obtain ⟨h1, h2, h3⟩ := app_ent ys s c
    unfold appT
    split
    · exact ⟨rfl, rfl, rfl⟩
    · unfold entT blkT keysT at *
      exact ⟨by simp [h1], by simp [h2], by simp [h3]⟩
theorem app_mem : ∀ {tl : PTl} {s : Int} {c : Int × PCh} {k : Nat} {y : Int × Nat × PIn}, (keysT tl).Nodup → (blkT tl).Nodup → (s, k, atT tl s) ∈ tl → y ∈ appT tl s c → (y ∈ tl ∧ y.2.1 ≠ k) ∨ y = (s, k, atT tl s ++ [c])
  | [], s, c, k, y, _, _, _, h => by cases h
  | z :: ys, s, c, k, y, hk, hb, hm, h => by
    obtain ⟨k1, k2⟩ := List.nodup_cons.1 hk
    obtain ⟨b1, b2⟩ := List.nodup_cons.1 hb
    unfold appT at h
    split at h
    · rename_i e
      have hz : k = z.2.1 := by
        rcases List.mem_cons.1 hm with hm | hm
        · rw [← hm]
        · exact absurd (List.mem_map.2 ⟨_, hm, e⟩) k1
      rcases List.mem_cons.1 h with h | h
      · right
        rw [h, hz]
        simp [atT, e]
      · left
        exact ⟨List.mem_cons_of_mem _ h, fun e2 => b1 (List.mem_map.2 ⟨y, h, e2.trans hz⟩)⟩
    · rename_i hne
      have ha : atT (z :: ys) s = atT ys s := by simp [atT, hne]
      rw [ha] at hm ⊢
      have hm2 : (s, k, atT ys s) ∈ ys := by
        rcases List.mem_cons.1 hm with hm | hm
        · exact absurd (by rw [← hm]) hne
        · exact hm
      rcases List.mem_cons.1 h with h | h
      · left
        exact ⟨by rw [h]; exact List.mem_cons_self, fun e2 => b1 (List.mem_map.2 ⟨_, hm2, by rw [← h]; exact e2.symm⟩)⟩
      · rcases app_mem k2 b2 hm2 h with ⟨h1, h2⟩ | h1
        · exact .inl ⟨List.mem_cons_of_mem _ h1, h2⟩
        · exact .inr h1
theorem mid_own {tl : PTl} {s : Int} {nb m : Nat} {k : Nat} (h : Own1 m (midT tl s nb) k) : Own1 m tl k ∨ k = nb := by
  unfold midT at h
  split at h
  · rcases h with h | h
    · exact .inl (.inl h)
    · unfold blkT at h
      rw [List.map_append] at h
      rcases List.mem_append.1 h with h | h
      · exact .inl (.inr h)
      · simp at h
        exact .inr h
  · exact .inl h
theorem mid_at0 : ∀ (l : PTl) (s : Int) (nb : Nat), atT l s = [] → atT (l ++ [(s, nb, [])]) s = []
  | [], s, nb, _ => by simp [atT]
  | y :: ys, s, nb, h => by
    unfold atT at h
    simp only [List.cons_append, atT]
    split at h
    · rename_i e
      rw [if_pos e]
      exact h
    · rename_i e
      rw [if_neg e]
      exact mid_at0 ys s nb h
theorem mid_at (tl : PTl) (s : Int) (nb : Nat) : atT (midT tl s nb) s = atT tl s := by
  unfold midT
  split
  · rename_i h
    have h1 : atT tl s = [] := at_noneT (by simpa using h)
    rw [h1]
    exact mid_at0 tl s nb h1
  · rfl
theorem mapEq (v : Value) (k : Nat) (u : World) : (binOp .eql 59 (.map (some k)) (.map none)).run Tryd.prog u = .ok (.bool false) u := by kernel_rfl
theorem mapEq0 (u : World) : (binOp .eql 59 (.map none) (.map none)).run Tryd.prog u = .ok (.bool true) u := by kernel_rfl
/-- 't.slots[slot] = voters{}'. -/
theorem TlyM.newS {w : World} {b m : Nat} {n cut : Int} {tl : PTl} (h : TlyM w b m n cut tl) {s : Int} (hf : fnd s (keysT tl) = none) {nb : Nat} (hm : Mp w nb []) (hnb : ¬ Own1 m tl nb) :
    ∃ w', (Instr.mapUpdate 54 (.map (some m)) (.int .i64 s) (.map (some nb))).run Tryd.prog w = .ok () w' ∧ TlyM w' b m n cut (midT tl s nb) ∧ w.grownBy w' (some m) := by
  obtain ⟨w', h1, h2, h3⟩ := h.map.put_new Tryd.underlying54 (q := s) (by rw [ent_keysT]; exact hf) (.map (some nb))
  have hmid : midT tl s nb = tl ++ [(s, nb, [])] := by unfold midT; rw [hf]; rfl
  have hbm : b ≠ m := fun e => by
    have h2 := h.row.cell (j := 0) rfl
    rw [e, h.map.nocell 0] at h2
    cases h2
  have hg : Gs (fun k => k = m) w w' := Gs.of h3 (.inr rfl)
  have hne : m ≠ nb := fun e => hnb (.inl e.symm)
  refine ⟨w', h1, ?_, h3⟩
  rw [hmid]
  refine ⟨h.row.grown h3 (fun e => hbm (Option.some.inj e).symm), ?_, fun y hy => ?_, ?_⟩
  · unfold entT
    rw [List.map_append]
    exact h2
  · rcases List.mem_append.1 hy with hy | hy
    · refine (h.ins y hy).mv (h3.block _ (h.ins y hy).lt (fun e => ?_)) (hg.nmap (fun k hk => by rw [hk]; exact h.map.isMap))
      have := (List.nodup_cons.1 h.dup).1
      exact this (by rw [← Option.some.inj e]; exact List.mem_map.2 ⟨y, hy, rfl⟩)
    · simp at hy
      subst hy
      exact ⟨[], hm.grown h3 (fun e => hne (Option.some.inj e)), trivial⟩
  · unfold blkT
    rw [List.map_append]
    have hd := h.dup
    unfold blkT at hd
    rw [← List.cons_append, List.nodup_append]
    refine ⟨hd, by simp, fun x hx y hy => ?_⟩
    simp at hy
    subst hy
    intro e
    subst e
    rcases List.mem_cons.1 hx with hx | hx
    · exact hne hx.symm
    · exact hnb (.inr hx)
/-- 't.slots[slot][signer] = c'. -/
theorem TlyM.putS {w : World} {b m : Nat} {n cut : Int} {tl : PTl} (h : TlyM w b m n cut tl) (hkd : (keysT tl).Nodup) {s : Int} {k : Nat} (hk : (s, k, atT tl s) ∈ tl) (c : Int × PCh) (hf : fnd c.1 (keysI (atT tl s)) = none) (sg : Value) (hs : RT Any w sg c.2.2) :
    ∃ w', (Instr.mapUpdate 59 (.map (some k)) (.int .i64 c.1) (.agg (bc c.2.1 ++ [sg]).toArray)).run Tryd.prog w.drew = .ok () w' ∧ TlyM w' b m n cut (appT tl s c) ∧ w.grownBy w' (some k) := by
  obtain ⟨l, hl, hA⟩ := h.ins _ hk
  have hl' : Mp w.drew k l := hl
  obtain ⟨w', h1, h2, h3⟩ := hl'.put_new Tryd.underlying59 (q := c.1) (by rw [RIn.keys hA]; exact hf) (.agg (bc c.2.1 ++ [sg]).toArray)
  have h3 := grown_drew h3
  have hg : Gs (fun j => j = k) w w' := Gs.of h3 (.inr rfl)
  have hnm := hg.nmap (fun j hj => by rw [hj]; exact hl.isMap)
  have hkb : k ∈ blkT tl := List.mem_map.2 ⟨_, hk, rfl⟩
  have hbk : b ≠ k := fun e => by
    have h2 := h.row.cell (j := 0) rfl
    rw [e, hl.nocell 0] at h2
    cases h2
  obtain ⟨e1, e2, e3⟩ := app_ent tl s c
  obtain ⟨d1, d2⟩ := List.nodup_cons.1 h.dup
  refine ⟨w', h1, ⟨h.row.grown h3 (fun e => hbk (Option.some.inj e).symm), ?_, fun y hy => ?_, by rw [e2]; exact h.dup⟩, h3⟩
  · rw [e1]
    exact h.map.grown h3 (fun e => d1 (by rw [← Option.some.inj e]; exact hkb))
  · rcases app_mem hkd d2 hk hy with ⟨hy1, hy2⟩ | rfl
    · exact (h.ins y hy1).mv (h3.block _ (h.ins y hy1).lt (fun e => hy2 (Option.some.inj e))) hnm
    · exact ⟨_, h2, All2.app (hA.mono fun z x hz => hz.mv hnm) ⟨⟨rfl, sg, rfl, hs.nmap.mv hnm⟩, trivial⟩⟩
end
section
open Go.RowKit Oct Stb MI Bal Sha
section
variable {P : Program}
theorem AllReadyH.moreT {md : Region.Mode} {ops : Array Oper} {Q : Exit → Act → World → Prop} {S : World → Prop} {fuel : Nat} {listed : Array Bool} {a : Act} {w : World} {i : Nat} {rs : List Nat} (h : wpOp P ops Q i (fun a' w' => S w' ∧ wpAnyH P md ops Q S fuel (listed.setIfInBounds i true) a' w') a w) (hs : AllReadyH P md ops Q S fuel listed a w rs) : AllReadyH P md ops Q S fuel listed a w (i :: rs) := fun j hj => by
  rcases List.mem_cons.1 hj with rfl | hj
  · exact h
  · exact hs j hj
theorem wpOp_allocT {ops : Array Oper} {Q : Exit → Act → World → Prop} {i : Nat} {K : Act → World → Prop} {a : Act} {w : World} {o : Oper} (hi : ops[i]? = some o) (hgd : o.guard = none) (ty : TypeId) (ho : o.op = .alloc ty) (d : Option Nat) (hd : o.dst = d) (zs : List Value)
    (hz : (zeroValue ty).run P w = .ok (.agg zs.toArray) w) (k : ∀ w' b, Row w' b ty zs → Below w.heap.size w w' → w.heap.size ≤ b → b < w'.heap.size → K (a.put d (.pointer (some ⟨b, 0, none⟩))) w') : wpOp P ops Q i K a w := by
  subst hd
  have hw : Region.wanted o (yielded ops a.tmps) = true := by simp [Region.wanted, hgd]
  have hk := k (w.alloc (.cells zs.toArray ty)) w.heap.size (Row.new w ty zs) (below_alloc _ _) (Nat.le_refl _) (by simp)
  unfold wpOp
  rw [hi]
  simp only [hw, if_true]
  left
  unfold Oper.wp execOp
  simp [ho, Instr.alloc, hz, newVar, newRow, newObj, Oper.upon, Value.cells]
  exact hk
theorem wpOp_store1T {ops : Array Oper} {Q : Exit → Act → World → Prop} {i : Nat} {K : Act → World → Prop} {a : Act} {w : World} {o : Oper} (hi : ops[i]? = some o) (hgd : o.guard = none) (ty : TypeId) (x y : Operand) (ho : o.op = .store ty x y)
    (b : Nat) (ys : List Value) (hx : a.eval x = .pointer (some ⟨b, 0, none⟩)) (hy : a.eval y = .agg ys.toArray) (t : TypeId) (xs : List Value) (h : Row w b t xs) (hl : xs.length = ys.length)
    (hs : (P.info? ty).map (·.size) = some ys.length) (h1 : ∀ v ∈ ys, v.oneCell' = true) (k : ∀ w', Row w' b t ys → w.grownBy w' (some b) → K (a.put o.dst undef) w') : wpOp P ops Q i K a w := by
  have hw : Region.wanted o (yielded ops a.tmps) = true := by simp [Region.wanted, hgd]
  unfold wpOp
  rw [hi]
  simp only [hw, if_true]
  left
  unfold Oper.wp execOp
  simp only [ho, hx, hy, Sem.run_bind, Sem.run_pure, Result.andThen_ok, h.store ty ys hl hs h1]
  exact k _ (h.setRow ys) (grown_setRow _ _ _)
theorem wpOp_storeT {ops : Array Oper} {Q : Exit → Act → World → Prop} {i : Nat} {K : Act → World → Prop} {a : Act} {w : World} {o : Oper} (hi : ops[i]? = some o) (hgd : o.guard = none) (ty : TypeId) (x y : Operand) (ho : o.op = .store ty x y) (hd : o.dst = none)
    (b : Nat) (ys : List Value) (hx : a.eval x = .pointer (some ⟨b, 0, none⟩)) (hy : a.eval y = .agg ys.toArray) (t : TypeId) (xs : List Value) (h : Row w b t xs) (hl : xs.length = ys.length)
    (hs : (P.info? ty).map (·.size) = some ys.length) (h1 : ∀ v ∈ ys, v.oneCell' = true) (k : ∀ w', Row w' b t ys → w.grownBy w' (some b) → K a w') : wpOp P ops Q i K a w :=
  wpOp_store1T hi hgd ty x y ho b ys hx hy t xs h hl hs h1 (fun w' h1 h2 => by rw [hd]; exact k w' h1 h2)
theorem wpOp_mapT {ops : Array Oper} {Q : Exit → Act → World → Prop} {i : Nat} {K : Act → World → Prop} {a : Act} {w : World} {o : Oper} (hi : ops[i]? = some o) (hgd : o.guard = none) (ty : TypeId) (x k v : Operand) (ho : o.op = .mapUpdate ty x k v) (hd : o.dst = none)
    (xv kv vv : Value) (hx : a.eval x = xv) (hk : a.eval k = kv) (hv : a.eval v = vv) (w' : World) (hr : (Instr.mapUpdate ty xv kv vv).run P w = .ok () w') (hK : K a w') : wpOp P ops Q i K a w := by
  subst hx hk hv
  have hw : Region.wanted o (yielded ops a.tmps) = true := by simp [Region.wanted, hgd]
  unfold wpOp
  rw [hi]
  simp only [hw, if_true]
  left
  unfold Oper.wp execOp
  simp only [ho, Sem.run_bind, Sem.run_pure, Result.andThen_ok, hr]
  have hp : a.put o.dst undef = a := by rw [hd]; rfl
  first
    | exact hK
    | (show K (a.put o.dst undef) w'; rw [hp]; exact hK)
    | (simp only [Oper.upon]; first | exact hK | (rw [hp]; exact hK))
end
set_option maxRecDepth 100000 in
theorem build33 (d : List Int) (h : d.length = 32) (sa : Option Addr) (q c : Nat) (u : World) : (Instr.build 63 #[(0, .agg (bc d).toArray), (1, .slice sa q c)]).run Tryd.prog u = .ok (.agg (bc d ++ [Value.slice sa q c]).toArray) u := by
  match d, h with
  | [x0, x1, x2, x3, x4, x5, x6, x7, x8, x9, x10, x11, x12, x13, x14, x15, x16, x17, x18, x19, x20, x21, x22, x23, x24, x25, x26, x27, x28, x29, x30, x31], _ => (show _ = _; kernel_rfl)
theorem array33 (db dof q dc : Nat) (h : q = 32) (u : World) : (Instr.arrayAt 60 (.slice (some ⟨db, dof, none⟩) q dc)).run Tryd.prog u = .ok (.pointer (some ⟨db, dof, none⟩)) u := by
  subst h
  kernel_rfl
theorem yields33 {ops : Array Oper} {S : World → Prop} {op : Oper} {a : Act} (hw : Region.wanted op (yielded ops a.tmps) = true) (x y : Operand) (ho : op.op = .build 63 #[(0, x), (1, y)]) (d : List Int) (h : d.length = 32) (sa : Option Addr) (q c : Nat) (hx : a.eval x = .agg (bc d).toArray) (hy : a.eval y = .slice sa q c) : YieldsIf Tryd.prog ops S op (.agg (bc d ++ [Value.slice sa q c]).toArray) a :=
  .inl ⟨hw, fun w hw' => by
    have hb := build33 d h sa q c w
    unfold execOp
    simp only [ho, List.map_toArray, List.map_cons, List.map_nil, hx, hy]
    simp only [Sem.run_bind, hb, Result.andThen_ok, Sem.run_pure]⟩
end
section
open Go.RowKit Oct Stb MI Bal Sha
theorem fnd_last : ∀ (tl : PTl) (s : Int), fnd s (keysT tl) = none → fnd s (tl.map (·.1) ++ [s]) = some tl.length
  | [], s, _ => by simp [fnd]
  | y :: ys, s, h => by
    have h : (if s = y.1 then some 0 else (fnd s (keysT ys)).map (· + 1)) = none := h
    split at h
    · cases h
    · rename_i hne
      have ih := fnd_last ys s (by simpa using h)
      show (if s = y.1 then some 0 else (fnd s (ys.map (·.1) ++ [s])).map (· + 1)) = _
      rw [if_neg hne, ih]
      rfl
theorem fldV (i : Int) (sa : Option Addr) (q c : Nat) (u : World) : (Instr.field 28 (.agg #[.int .i64 i, .slice sa q c]) 1).run Tryd.prog u = .ok (.slice sa q c) u := by kernel_rfl
def addOk (n cut : Int) (tl : PTl) (s : Int) (d : List Int) (v : PVote) : Bool := mayC cut tl s v.1 && isR n s d v
/-- The tally behind a vote; did it make a quorum? -/
def addT (n cut : Int) (tl : PTl) (nb : Nat) (s : Int) (d : List Int) (v : PVote) : PTl := if addOk n cut tl s d v = true then putT tl s nb v.1 (d, v.2) else tl
def addB (n cut : Int) (tl : PTl) (s : Int) (d : List Int) (v : PVote) : Bool := addOk n cut tl s d v && decide (((vts (atT tl s ++ [(v.1, (d, v.2))]) d).length : Int) = quo n)
set_option maxRecDepth 10000 in
set_option maxHeartbeats 8000000 in
theorem addT_any {b m : Nat} {n cut : Int} {tl : PTl} (w : World) (h : Tly w b m n cut tl) (s : Int) (dv : Value) (d : List Int) (hd : Rd w dv d) (i : Int) (gv : Value) (g : List Int) (hg : Rd w gv g) (hT : Tab w) :
    Calls Tryd.prog 9 #[.pointer (some ⟨b, 0, none⟩), .int .i64 s, dv, .agg #[.int .i64 i, gv]] w fun e w' => ∃ nb, w.heap.size ≤ nb ∧ e = .returned (.bool (addB n cut tl s d (i, g))) ∧ Tly w' b m n cut (addT n cut tl nb s d (i, g)) ∧ Gs (Own1 m tl) w w' := by
  obtain ⟨da, dc, rfl, _⟩ := hd.form
  obtain ⟨ga, gc, rfl, _⟩ := hg.form
  obtain ⟨w1, hw1⟩ : ∃ u, u = w.alloc (.cells #[.int .i64 i, .slice ga g.length gc] 28) := ⟨_, rfl⟩
  have r1 : Row w1 w.heap.size 28 [.int .i64 i, .slice ga g.length gc] := by rw [hw1]; exact Row.new _ _ _
  have b1 : Below w.heap.size w w1 := by rw [hw1]; exact below_alloc _ _
  have h1 := h.below b1
  have hmay := mayC_any w1 h1 s i
  by_cases hm : mayC cut tl s i = true
  case neg =>
    have hm : mayC cut tl s i = false := by simpa using hm
    have k0 := r1.cell (j := 0) rfl
    rw [hm] at hmay
    have hA : addOk n cut tl s d (i, g) = false := by unfold addOk; rw [hm]; rfl
    have HF := (show Hid (addB n cut tl s d (i, g) = false ∧ addT n cut tl w.heap.size s d (i, g) = tl ∧ Tly w b m n cut tl) from ⟨by unfold addB; rw [hA, Bool.false_and], by unfold addT; rw [hA]; rfl, h⟩)
    clear hA hm h h1 r1 hd hg
    go_enter Tryd.func9, Tryd.ntmps9
    go_upto_region 1 with fail
    rw [← hw1]
    clear hw1
    go_wp2_with (go_at_call 21; refine hmay.mono ?_; rintro e w2 ⟨rfl, b2⟩)
    go_ret
    have B := below_and b1 (Nat.le_refl _) b2
    exact ⟨w.heap.size, Nat.le_refl _, by rw [HF.out.1]; rfl, by rw [HF.out.2.1]; exact HF.out.2.2.below B, Gs.bel B⟩
  rw [hm] at hmay
  have HR := (show Hid (∀ u, Below w1.heap.size w1 u → Calls Tryd.prog 22 #[.pointer (some ⟨b, 0, none⟩), .int .i64 s, .slice da d.length dc, .agg #[.int .i64 i, .slice ga g.length gc]] u fun e w' => e = .returned (.bool (isR n s d (i, g))) ∧ Below u.heap.size u w') from fun u hu => isR_any u (h1.below hu) s _ d (hd.below (below_and b1 (Nat.le_refl _) hu)) i _ g (hg.below (below_and b1 (Nat.le_refl _) hu)) (hT.below (below_and b1 (Nat.le_refl _) hu)))
  have HC := (show Hid (∀ u, Below w1.heap.size w1 u → Row u w.heap.size 28 [.int .i64 i, .slice ga g.length gc]) from fun u hu => r1.below hu)
  have k0 := r1.cell (j := 0) rfl
  clear r1
  by_cases hr : isR n s d (i, g) = true
  case neg =>
    have hr : isR n s d (i, g) = false := by simpa using hr
    rw [hr] at HR
    have hA : addOk n cut tl s d (i, g) = false := by unfold addOk; rw [hm, hr]; rfl
    have HF := (show Hid (addB n cut tl s d (i, g) = false ∧ addT n cut tl w.heap.size s d (i, g) = tl ∧ Tly w b m n cut tl) from ⟨by unfold addB; rw [hA, Bool.false_and], by unfold addT; rw [hA]; rfl, h⟩)
    clear hA hm h h1 hd hg hr
    go_enter Tryd.func9, Tryd.ntmps9
    go_upto_region 1 with fail
    rw [← hw1]
    clear hw1
    go_wp2_with (first
      | (go_at_call 21; refine hmay.mono ?_; rintro e w2 ⟨rfl, b2⟩; have R2 := HC.out w2 b2)
      | (refine wl_load_w rfl _ _ rfl w.heap.size rfl _ _ R2 _ Tryd.underlying28 rfl (by kernel_rfl) ?_)
      | (go_at_call 22; refine (HR.out w2 b2).mono ?_; rintro e w3 ⟨rfl, b3⟩))
    go_ret
    have B := below_and b1 (Nat.le_refl _) (below_and b2 (Nat.le_refl _) b3)
    exact ⟨w.heap.size, Nat.le_refl _, by rw [HF.out.1]; rfl, by rw [HF.out.2.1]; exact HF.out.2.2.below B, Gs.bel B⟩
  rw [hr] at HR
  obtain ⟨hrn, h32, hri0, hrin, _⟩ := isR_rgt hr
  have hgT : RT Any w (.slice ga g.length gc) g := ⟨hg, fun _ _ _ => trivial⟩
  have hsz : szV (i, g) := by
    have := (rgt_sig (isR_rgt hr).2.2.2.2).1
    show szT g
    unfold szT
    simp only at this
    omega
  have hdb := hd.1
  obtain ⟨db, dof, dcap, hde, _, _, hdbl, hdc⟩ := hd.2.at (by rw [bc_len, h32]; decide)
  injection hde with hde1 hde2 hde3
  subst hde1
  have hdnm : NMap w db := cell_nmap (a := ⟨db, dof + 0, none⟩) (hdc 0 _ (bc_getD d 0 (by omega)))
  have hfi := (mayC_all hm).2.2.2.1
  have HF := (show Hid (addOk n cut tl s d (i, g) = true ∧ mayC cut tl s i = true ∧ isR n s d (i, g) = true ∧ Tly w b m n cut tl ∧ Tly w1 b m n cut tl ∧ d.length = 32 ∧ rgt n = true ∧ fnd i (keysI (atT tl s)) = none ∧ Byt d) from ⟨by unfold addOk; rw [hm, hr]; rfl, hm, hr, h, h1, h32, hrn, hfi, hdb⟩)
  have HGS := (show Hid (∀ u, Gs (Own1 m tl) w1 u → Row u w.heap.size 28 [.int .i64 i, .slice ga g.length gc] ∧ RT Any u (.slice ga g.length gc) g ∧ u.rangeAt db dof (bc d)) from fun u hu => by
    have hown : ∀ k, Own1 m tl k → ¬ NMap w1 k := fun k hk => (h1.own hk).1
    have hrow := HC.out w1 (Below.refl _ _)
    refine ⟨(hu.block _ hrow.lt (fun hS => hown _ hS (cell_nmap (a := ⟨w.heap.size, 0, none⟩) (hrow.cell (j := 0) rfl)))).trans hrow, ((hgT.mv (Mv.below b1)).nmap).mv (hu.nmap hown), fun j v hj => ?_⟩
    have e0 : w1.heap[db]? = w.heap[db]? := b1.block db hdbl
    have e1 : u.heap[db]? = w1.heap[db]? := hu.block db (Nat.lt_of_lt_of_le hdbl b1.size) (fun hS => hown _ hS (fun es c hm => hdnm es c (e0.symm.trans hm)))
    rw [World.cell?_of_block (w := w) (w' := u) (a := ⟨db, dof + j, none⟩) (e1.trans e0)]
    exact hdc j v hj)
  have heq : ∀ u, (binOp .eql 59 (mpT tl s) (.map none)).run Tryd.prog u = .ok (.bool (fnd s (keysT tl)).isNone) u := fun u => by
    unfold mpT
    cases hf : fnd s (keysT tl) with
    | none => exact mapEq0 u
    | some j =>
      obtain ⟨y, hy, _⟩ := fnd_getT hf
      simp only [hy, Option.map_some]
      exact mapEq (.map none) _ u
  have HEQ := (show Hid (∀ u, (binOp .eql 59 (mpT tl s) (.map none)).run Tryd.prog u = .ok (.bool (fnd s (keysT tl)).isNone) u) from heq)
  have HSZ := (show Hid (szV (i, g)) from hsz)
  have hmm := @run_makeMap Tryd.prog
  have hI32 : (Tryd.prog.info? 60).map (·.size) = some (bc d).length := by rw [bc_len, h32]; kernel_rfl
  have HAP := (show Hid (∀ u, (Instr.arrayAt 60 (.slice (some ⟨db, dof, none⟩) d.length dc)).run Tryd.prog u = .ok (.pointer (some ⟨db, dof, none⟩)) u) from fun u => array33 db dof _ dc h32 u)
  have HB3 := (show Hid (∀ sa q c u, (Instr.build 63 #[(0, .agg (bc d).toArray), (1, .slice sa q c)]).run Tryd.prog u = .ok (.agg (bc d ++ [Value.slice sa q c]).toArray) u) from fun sa q c u => build33 d h32 sa q c u)
  have HR3 := (show Hid (∀ sa q c, (bc d ++ [Value.slice sa q c]).length = 33 ∧ (∀ v ∈ bc d ++ [Value.slice sa q c], v.oneCell' = true)) from fun sa q c => ⟨by rw [List.length_append, bc_len, h32]; rfl, fun v hv => by
    rcases List.mem_append.1 hv with hv | hv
    · exact bc_one _ v hv
    · simp at hv
      subst hv
      rfl⟩)
  clear hm h h1 hd hg hr heq hdc hdbl hdnm hgT hT hrn hri0 hrin hde2 hde3 h32 hdb hfi hsz
  go_enter Tryd.func9, Tryd.ntmps9
  go_upto_region 1 with fail
  rw [← hw1]
  clear hw1
  go_upto_region 3 with (first
      | (go_at_call 21; refine hmay.mono ?_; rintro e w2 ⟨rfl, b2⟩; have R2 := HC.out w2 b2)
      | (refine wl_load_w rfl _ _ rfl w.heap.size rfl _ _ R2 _ Tryd.underlying28 rfl (by kernel_rfl) ?_)
      | (go_at_call 22; refine (HR.out w2 b2).mono ?_; rintro e w3 ⟨rfl, b3⟩))
  have B3 := below_and b2 (Nat.le_refl _) b3
  have h3 := HF.out.2.2.2.2.1.below B3
  have hlk := h3.look s w3 rfl
  have c2 := h3.row.cell (j := 2) rfl
  have heq := HEQ.out w3
  have H3 := (show Hid (Tly w3 b m n cut tl) from h3)
  clear h3 R2 hmay HR b2 b3 k0 HC
  obtain ⟨c0, hc0⟩ : ∃ c0, c0 = (fnd s (keysT tl)).isNone := ⟨_, rfl⟩
  rw [← hc0] at heq
  have HC0 := (show Hid (c0 = (fnd s (keysT tl)).isNone) from hc0)
  clear hc0
  obtain ⟨mv, hmv⟩ : ∃ mv, mpT tl s = .map mv := by
    unfold mpT
    cases fnd s (keysT tl) <;> exact ⟨_, rfl⟩
  rw [hmv] at heq hlk
  clear hmv
  go_upto_if 30 with fail
  go_cut [] from 24 (fun wx => ∃ nb k, w.heap.size ≤ nb ∧ Hid (mpT (midT tl s nb) s = .map (some k) ∧ (s, k, atT tl s) ∈ midT tl s nb ∧ (keysT (midT tl s nb)).Nodup ∧ (k ∈ blkT tl ∨ w1.heap.size ≤ k)) ∧ TlyM wx b m n cut (midT tl s nb) ∧ Gs (Own1 m tl) w1 wx)
  case first =>
    cases c0 with
    | false =>
      go_wp2_with fail
      go_meet
      case rel =>
        have hf : (fnd s (keysT tl)).isNone = false := HC0.out.symm
        have hmid : midT tl s w.heap.size = tl := by unfold midT; rw [hf]; rfl
        rcases H3.out.at s with ⟨e1, e2, e3⟩ | ⟨k, e1, e2, e3, e4⟩
        · rw [e3] at hf
          cases hf
        · refine ⟨w.heap.size, k, Nat.le_refl _, ?_, ?_, Gs.bel B3⟩
          · rw [hmid]
            exact ⟨e1, e2, H3.out.ok.dup, .inl (List.mem_map.2 ⟨_, e2, rfl⟩)⟩
          · rw [hmid]
            exact H3.out.toM
    | true =>
      have hf : fnd s (keysT tl) = none := by simpa using HC0.out.symm
      obtain ⟨w4, hw4⟩ : ∃ u, u = w3.alloc (.map #[] 0) := ⟨_, rfl⟩
      have hm4 := Mp.made w3
      have b4 : Below w3.heap.size w3 w4 := by rw [hw4]; exact below_alloc _ _
      rw [← hw4] at hm4
      have h4 := H3.out.toM.below b4
      have hnb : ¬ Own1 m tl w3.heap.size := fun hS => by
        have := (H3.out.own hS).2
        omega
      obtain ⟨w5, hup, h5, g5⟩ := h4.newS hf hm4 hnb
      rw [hw4] at hup
      have HMM := (show Hid (midT tl s w3.heap.size = tl ++ [(s, w3.heap.size, [])] ∧ fnd s (keysT tl) = none) from ⟨by unfold midT; rw [hf]; rfl, hf⟩)
      clear hm4 h4 hnb hf
      go_wp2_with fail
      go_meet
      case rel =>
        have hf := HMM.out.2
        have hkk : fnd s (keysT (midT tl s w3.heap.size)) = some tl.length := by
          rw [HMM.out.1]
          unfold keysT
          rw [List.map_append]
          exact fnd_last tl s hf
        refine ⟨w3.heap.size, w3.heap.size, Nat.le_trans b1.size B3.size, ⟨?_, ?_, ?_, .inr B3.size⟩, h5, ?_⟩
        · unfold mpT
          rw [hkk, HMM.out.1]
          simp
        · rw [HMM.out.1, at_noneT hf]
          simp
        · rw [HMM.out.1]
          unfold keysT
          rw [List.map_append, List.nodup_append]
          refine ⟨H3.out.ok.dup, by simp, fun x hx y hy => ?_⟩
          simp at hy
          subst hy
          exact fun e => fnd_none hf (e ▸ hx)
        · refine ((Gs.bel (S := Own1 m tl) B3).trans (Gs.bel (S := Own1 m tl) b4) (fun _ _ h => h)).trans (Gs.of (S := Own1 m tl) g5 (.inr (.inl rfl))) (fun _ _ h => h)
  case rest =>
  revert wc
  intro wx hcut
  obtain ⟨nb, k, hnb, HM, hx, hgx⟩ := hcut
  obtain ⟨rv, tg, rd⟩ := HGS.out wx hgx
  clear H3 hlk heq c2 B3 HC0 c0 mv HEQ hmm w3
  have HX := (show Hid (∀ u, Below wx.heap.size wx u → Row u w.heap.size 28 [.int .i64 i, .slice ga g.length gc] ∧ RT Any u (.slice ga g.length gc) g ∧ u.rangeAt db dof (bc d)) from fun u hu => HGS.out u (hgx.trans (Gs.bel (S := Own1 m tl) hu) (fun _ _ h => h)))
  have B0 : Below wx.heap.size wx wx.drew := ⟨rfl, rfl, rfl, Nat.le_refl _, fun _ _ => rfl⟩
  have hzc := zeroCh
  have HCV := (show Hid (∀ u, Below wx.heap.size wx u → Calls Tryd.prog 23 #[.agg #[.int .i64 i, .slice ga g.length gc]] u fun e w' => ∃ sa sc, e = .returned (.agg #[.int .i64 i, .slice sa g.length sc]) ∧ RT (From u.heap.size) w' (.slice sa g.length sc) g ∧ Below u.heap.size u w') from fun u hu => (cloneVoteS_any u [.int .i64 i, .slice ga g.length gc] (i, g) ⟨_, rfl, (HX.out u hu).2.1⟩ HSZ.out).mono fun e w' ⟨r', h1, ⟨q, h2, h3⟩, h4⟩ => by
    obtain ⟨sa, sc, e3, _⟩ := h3.form
    subst e3 h2
    exact ⟨sa, sc, h1, h3, h4⟩)
  clear rv tg rd
  go_upto_region 5 with fail
  go_cut [9] from 24 (fun s9 wy => ∃ bx sa sc, s9 = .pointer (some ⟨bx, 0, none⟩) ∧ Row wy bx 63 (bc d ++ [Value.slice sa g.length sc]) ∧ RT Any wy (.slice sa g.length sc) g ∧ Below wx.heap.size wx wy)
  case first =>
    try go_simp
    refine wp_region_held_drew (S := fun u => Below wx.heap.size wx u) (by kernel_rfl) B0 (fun hHeld => ?_)
    clear hHeld
    refine wpAnyH_take (i := 0) (v := .slice (some ⟨db, dof, none⟩) d.length dc) rfl (by kernel_rfl) (by kernel_rfl) (by kernel_rfl) (fun _ _ _ h => h) (Or.inl ⟨by kernel_rfl, fun u hSu => by go_simp⟩) B0 ?_
    simp only [Act.put, List.setIfInBounds_toArray, List.set_cons_zero, List.set_cons_succ]
    refine wpAnyH_take (i := 1) (v := .pointer (some ⟨db, dof, none⟩)) rfl (by kernel_rfl) (by kernel_rfl) (by kernel_rfl) (fun _ _ _ h => h) (Or.inl ⟨by kernel_rfl, fun u hSu => by have hck := HAP.out u; go_simp⟩) B0 ?_
    simp only [Act.put, List.setIfInBounds_toArray, List.set_cons_zero, List.set_cons_succ]
    refine wpAnyH_take (i := 2) (v := .agg (bc d).toArray) rfl (by kernel_rfl) (by kernel_rfl) (by kernel_rfl) (fun _ _ _ h => h) (yieldsIf_load_mid (by kernel_rfl) _ _ rfl db dof (by go_simp) (bc d) _ (fun u hSu => (HX.out u hSu).2.2) Tryd.underlying60 rfl hI32) B0 ?_
    simp only [Act.put, List.setIfInBounds_toArray, List.set_cons_zero, List.set_cons_succ]
    refine wpAnyH_take (i := 3) (v := .agg #[.int .i64 i, .slice ga g.length gc]) rfl (by kernel_rfl) (by kernel_rfl) (by kernel_rfl) (fun _ _ _ h => h) (yieldsIf_load_mid (by kernel_rfl) _ _ rfl w.heap.size 0 (by go_simp) [.int .i64 i, .slice ga g.length gc] _ (fun u hSu => Row.midT (HX.out u hSu).1 0 rfl) Tryd.underlying28 rfl (by kernel_rfl)) B0 ?_
    simp only [Act.put, List.setIfInBounds_toArray, List.set_cons_zero, List.set_cons_succ]
    refine wpAnyH_ready (rs := [4, 7]) (by kernel_rfl) (by simp) ?_
    refine AllReadyH.cons (o := _) rfl (fun K hK => ?_) ?_
    · go_simp
      refine (HCV.out wx.drew B0).mono ?_
      rintro e u1 ⟨sa, sc, rfl, hsg, bb1⟩
      have B1 := below_and B0 (Nat.le_refl _) bb1
      try go_simp
      refine hK.out _ _ B1 (fun hHeld => ?_)
      clear hK K hHeld
      refine wpAnyH_take (i := 5) (v := .slice sa g.length sc) rfl (by kernel_rfl) (by kernel_rfl) (by kernel_rfl) (fun _ _ _ h => h) (Or.inl ⟨by kernel_rfl, fun u hSu => by have hck := fldV i sa g.length sc u; go_simp⟩) B1 ?_
      simp only [Act.put, List.setIfInBounds_toArray, List.set_cons_zero, List.set_cons_succ]
      refine wpAnyH_take (i := 6) (v := (.agg (bc d ++ [Value.slice sa g.length sc]).toArray)) rfl (by kernel_rfl) (by kernel_rfl) (by kernel_rfl) (fun _ _ _ h => h) (yields33 (by kernel_rfl) _ _ rfl d HF.out.2.2.2.2.2.1 sa g.length sc (by go_simp) (by go_simp)) B1 ?_
      simp only [Act.put, List.setIfInBounds_toArray, List.set_cons_zero, List.set_cons_succ]
      simp only [List.getElem_toArray, List.getElem_cons_succ, List.getElem_cons_zero, Act.put, List.setIfInBounds_toArray, List.set_cons_zero, List.set_cons_succ]
      refine wpAnyH_ready (rs := [7]) (by kernel_rfl) (by simp) ?_
      refine AllReadyH.moreT (wpOp_allocT rfl rfl _ rfl (some 9) rfl zCh (hzc _) (fun u2 bx rX bb2 lx hx => ⟨below_and B1 (Nat.le_refl _) bb2, ?_⟩)) AllReadyH.nil
      have B2 := below_and B1 (Nat.le_refl _) bb2
      have hsg := hsg.mv (G' := fun k => k ≠ bx) (fun k _ hlt => ⟨rfl, by omega⟩)
      have hsg := hsg.mv (Mv.belowG bb2)
      simp only [Act.put, List.setIfInBounds_toArray, List.set_cons_zero, List.set_cons_succ]
      refine wpAnyH_ready (rs := [8]) (by kernel_rfl) (by simp) ?_
      refine AllReadyH.moreT (wpOp_storeT rfl rfl _ _ _ rfl rfl bx (bc d ++ [Value.slice sa g.length sc]) rfl rfl _ _ rX (by rw [(HR3.out sa g.length sc).1]; rfl) (by rw [(HR3.out sa g.length sc).1]; kernel_rfl) (HR3.out sa g.length sc).2 (fun u4 rX2 gx => ⟨B2.trans (grown_below gx B2.size (fun k hk => by cases hk; exact Nat.le_trans B1.size lx)), ?_⟩)) AllReadyH.nil
      have B4 : Below wx.heap.size wx u4 := B2.trans (grown_below gx B2.size (fun k hk => by cases hk; exact Nat.le_trans B1.size lx))
      have hsg4 := hsg.mv (G' := Any) (fun k hk hlt => ⟨gx.block k hlt (fun e => hk (Option.some.inj e)), trivial⟩)
      refine wpAnyH_done (by kernel_rfl) ?_ _
      go_wp2_with fail
      go_meet
      case rel => exact ⟨bx, sa, sc, rfl, rX2, hsg4, B4⟩
    · refine AllReadyH.moreT (wpOp_allocT rfl rfl _ rfl (some 9) rfl zCh (hzc _) (fun u1 bx rX bb1 lx hx => ⟨below_and B0 (Nat.le_refl _) bb1, ?_⟩)) AllReadyH.nil
      have B1 := below_and B0 (Nat.le_refl _) bb1
      simp only [Act.put, List.setIfInBounds_toArray, List.set_cons_zero, List.set_cons_succ]
      refine wpAnyH_ready (rs := [4]) (by kernel_rfl) (by simp) ?_
      refine AllReadyH.cons (o := _) rfl (fun K hK => ?_) AllReadyH.nil
      go_simp
      refine (HCV.out u1 B1).mono ?_
      rintro e u2 ⟨sa, sc, rfl, hsg, bb2⟩
      have B2 := below_and B1 (Nat.le_refl _) bb2
      have rX := rX.below bb2
      try go_simp
      refine hK.out _ _ B2 (fun hHeld => ?_)
      clear hK K hHeld
      refine wpAnyH_take (i := 5) (v := .slice sa g.length sc) rfl (by kernel_rfl) (by kernel_rfl) (by kernel_rfl) (fun _ _ _ h => h) (Or.inl ⟨by kernel_rfl, fun u hSu => by have hck := fldV i sa g.length sc u; go_simp⟩) B2 ?_
      simp only [Act.put, List.setIfInBounds_toArray, List.set_cons_zero, List.set_cons_succ]
      refine wpAnyH_take (i := 6) (v := (.agg (bc d ++ [Value.slice sa g.length sc]).toArray)) rfl (by kernel_rfl) (by kernel_rfl) (by kernel_rfl) (fun _ _ _ h => h) (yields33 (by kernel_rfl) _ _ rfl d HF.out.2.2.2.2.2.1 sa g.length sc (by go_simp) (by go_simp)) B2 ?_
      simp only [Act.put, List.setIfInBounds_toArray, List.set_cons_zero, List.set_cons_succ]
      simp only [List.getElem_toArray, List.getElem_cons_succ, List.getElem_cons_zero, Act.put, List.setIfInBounds_toArray, List.set_cons_zero, List.set_cons_succ]
      have hsg := hsg.mv (G' := fun k => k ≠ bx) (fun k hk hlt => ⟨rfl, by unfold From at hk; omega⟩)
      refine wpAnyH_ready (rs := [8]) (by kernel_rfl) (by simp) ?_
      refine AllReadyH.moreT (wpOp_storeT rfl rfl _ _ _ rfl rfl bx (bc d ++ [Value.slice sa g.length sc]) rfl rfl _ _ rX (by rw [(HR3.out sa g.length sc).1]; rfl) (by rw [(HR3.out sa g.length sc).1]; kernel_rfl) (HR3.out sa g.length sc).2 (fun u4 rX2 gx => ⟨B2.trans (grown_below gx B2.size (fun k hk => by cases hk; exact Nat.le_trans B0.size lx)), ?_⟩)) AllReadyH.nil
      have B4 : Below wx.heap.size wx u4 := B2.trans (grown_below gx B2.size (fun k hk => by cases hk; exact Nat.le_trans B0.size lx))
      have hsg4 := hsg.mv (G' := Any) (fun k hk hlt => ⟨gx.block k hlt (fun e => hk (Option.some.inj e)), trivial⟩)
      refine wpAnyH_done (by kernel_rfl) ?_ _
      go_wp2_with fail
      go_meet
      case rel => exact ⟨bx, sa, sc, rfl, rX2, hsg4, B4⟩
  case rest =>
  obtain ⟨bx, sa, sc, rfl, rX, hsg, bxy⟩ := hcut
  clear HCV B0 hzc HAP HB3
  have hxy := hx.below bxy
  obtain ⟨rv, _, _⟩ := HX.out wc bxy
  have hkm := HM.out
  obtain ⟨w7, hup, h7, g7⟩ := hxy.putS hkm.2.2.1 (s := s) (k := k) (by rw [mid_at]; exact hkm.2.1) (i, (d, g)) (by rw [mid_at]; exact HF.out.2.2.2.2.2.2.2.1) _ hsg
  have hbk : bx ≠ k := fun e => by
    have h1 := rX.cell (j := 0) (u := _) (by rw [List.getElem?_append_left (by rw [bc_len, HF.out.2.2.2.2.2.1]; decide)]; exact bc_getD d 0 (by rw [HF.out.2.2.2.2.2.1]; decide))
    obtain ⟨l, hl, _⟩ := hxy.ins _ (show (s, k, atT tl s) ∈ midT tl s nb from hkm.2.1)
    rw [e, hl.nocell 0] at h1
    cases h1
  have rX7 := rX.grown g7 (fun e => hbk (Option.some.inj e).symm)
  rw [app_mid] at h7
  have h7 : Tly w7 b m n cut (putT tl s nb i (d, g)) := h7.ofM (HF.out.2.2.2.1.ok.put nb HF.out.2.2.2.2.2.2.2.2 HF.out.2.1 HF.out.2.2.1)
  have hG7 : Gs (Own1 m tl) w w7 := by
    have e1 : Gs (Own1 m tl) w wc := ((Gs.bel (S := Own1 m tl) b1).trans hgx (fun _ _ h => h)).trans (Gs.bel (S := Own1 m tl) bxy) (fun _ _ h => h)
    refine e1.trans (S' := fun q => q = k) (Gs.of g7 (.inr rfl)) (fun q hq hqk => ?_)
    rcases hkm.2.2.2 with h | h
    · exact .inr (by rw [hqk]; exact h)
    · have := b1.size
      omega
  have c2 := hxy.row.cell (j := 2) rfl
  have hlk := fun u hu => hxy.look s u hu
  rw [hkm.1] at hlk
  have HLK := (show Hid (∀ u, u.heap[m]? = wc.heap[m]? → (Instr.lookup 54 (.map (some m)) (.int .i64 s) false).run Tryd.prog u = .ok (.map (some k)) u) from hlk)
  have hmk : m ≠ k := fun e => (List.nodup_cons.1 hxy.dup).1 (by rw [e]; exact List.mem_map.2 ⟨_, hkm.2.1, rfl⟩)
  have hbk2 : b ≠ k := fun e => by
    obtain ⟨l, hl, _⟩ := hxy.ins _ (show (s, k, atT tl s) ∈ midT tl s nb from hkm.2.1)
    have h1 := hxy.row.cell (j := 0) rfl
    rw [e, hl.nocell 0] at h1
    cases h1
  have hvk : w.heap.size ≠ k := fun e => by
    obtain ⟨l, hl, _⟩ := hxy.ins _ (show (s, k, atT tl s) ∈ midT tl s nb from hkm.2.1)
    have h1 := rv.cell (j := 0) rfl
    rw [e, hl.nocell 0] at h1
    cases h1
  have HS0 : Row wc.drew b 56 [.int .i64 n, .int .i64 cut, .map (some m)] ∧ Row wc.drew w.heap.size 28 [.int .i64 i, .slice ga g.length gc] ∧ Row wc.drew bx 63 (bc d ++ [Value.slice sa g.length sc]) ∧ wc.drew.heap[m]? = wc.heap[m]? := ⟨hxy.row, rv, rX, rfl⟩
  have HS7 : Row w7 b 56 [.int .i64 n, .int .i64 cut, .map (some m)] ∧ Row w7 w.heap.size 28 [.int .i64 i, .slice ga g.length gc] ∧ Row w7 bx 63 (bc d ++ [Value.slice sa g.length sc]) ∧ w7.heap[m]? = wc.heap[m]? := ⟨h7.row, rv.grown g7 (fun e => hvk (Option.some.inj e).symm), rX7, g7.block m hxy.map.lt (fun e => hmk (Option.some.inj e))⟩
  have hI33 : (Tryd.prog.info? 63).map (·.size) = some (bc d ++ [Value.slice sa g.length sc]).length := by rw [(HR3.out sa g.length sc).1]; kernel_rfl
  clear hkm hlk c2 rv hsg rX hx hgx HX HGS hbk hmk hbk2 hvk
  go_upto_region 6 with fail
  go_cut [9] from 24 (fun s9 wy => s9 = .pointer (some ⟨bx, 0, none⟩) ∧ wy = w7)
  case first =>
    try go_simp
    refine wp_region_held_drew (S := fun u => Row u b 56 [.int .i64 n, .int .i64 cut, .map (some m)] ∧ Row u w.heap.size 28 [.int .i64 i, .slice ga g.length gc] ∧ Row u bx 63 (bc d ++ [Value.slice sa g.length sc]) ∧ u.heap[m]? = wc.heap[m]?) (by kernel_rfl) HS0 (fun hHeld => ?_)
    clear hHeld
    refine wpAnyH_take (i := 0) (v := .pointer (some ⟨b, 0, none⟩)) rfl (by kernel_rfl) (by kernel_rfl) (by kernel_rfl) (fun _ _ _ h => h) (Or.inl ⟨by kernel_rfl, fun u hSu => by go_simp⟩) HS0 ?_
    simp only [Act.put, List.setIfInBounds_toArray, List.set_cons_zero, List.set_cons_succ]
    refine wpAnyH_take (i := 1) (v := .pointer (some ⟨b, 0, none⟩)) rfl (by kernel_rfl) (by kernel_rfl) (by kernel_rfl) (fun _ _ _ h => h) (Or.inl ⟨by kernel_rfl, fun u hSu => by go_simp⟩) HS0 ?_
    simp only [Act.put, List.setIfInBounds_toArray, List.set_cons_zero, List.set_cons_succ]
    refine wpAnyH_take (i := 2) (v := .pointer (some ⟨b, 2, none⟩)) rfl (by kernel_rfl) (by kernel_rfl) (by kernel_rfl) (fun _ _ _ h => h) (Or.inl ⟨by kernel_rfl, fun u hSu => by go_simp⟩) HS0 ?_
    simp only [Act.put, List.setIfInBounds_toArray, List.set_cons_zero, List.set_cons_succ]
    refine wpAnyH_take (i := 3) (v := .map (some m)) rfl (by kernel_rfl) (by kernel_rfl) (by kernel_rfl) (fun _ _ _ h => h) (Or.inl ⟨by kernel_rfl, fun u hSu => by have hck := (hSu.1).cell (j := 2) rfl; go_simp⟩) HS0 ?_
    simp only [Act.put, List.setIfInBounds_toArray, List.set_cons_zero, List.set_cons_succ]
    refine wpAnyH_take (i := 4) (v := .int .i64 s) rfl (by kernel_rfl) (by kernel_rfl) (by kernel_rfl) (fun _ _ _ h => h) (Or.inl ⟨by kernel_rfl, fun u hSu => by go_simp⟩) HS0 ?_
    simp only [Act.put, List.setIfInBounds_toArray, List.set_cons_zero, List.set_cons_succ]
    refine wpAnyH_take (i := 5) (v := .map (some k)) rfl (by kernel_rfl) (by kernel_rfl) (by kernel_rfl) (fun _ _ _ h => h) (Or.inl ⟨by kernel_rfl, fun u hSu => by have hck := HLK.out u hSu.2.2.2; go_simp⟩) HS0 ?_
    simp only [Act.put, List.setIfInBounds_toArray, List.set_cons_zero, List.set_cons_succ]
    refine wpAnyH_take (i := 6) (v := .pointer (some ⟨w.heap.size, 0, none⟩)) rfl (by kernel_rfl) (by kernel_rfl) (by kernel_rfl) (fun _ _ _ h => h) (Or.inl ⟨by kernel_rfl, fun u hSu => by go_simp⟩) HS0 ?_
    simp only [Act.put, List.setIfInBounds_toArray, List.set_cons_zero, List.set_cons_succ]
    refine wpAnyH_take (i := 7) (v := .int .i64 i) rfl (by kernel_rfl) (by kernel_rfl) (by kernel_rfl) (fun _ _ _ h => h) (Or.inl ⟨by kernel_rfl, fun u hSu => by have hck := (hSu.2.1).cell (j := 0) rfl; go_simp⟩) HS0 ?_
    simp only [Act.put, List.setIfInBounds_toArray, List.set_cons_zero, List.set_cons_succ]
    refine wpAnyH_take (i := 8) (v := .agg (bc d ++ [Value.slice sa g.length sc]).toArray) rfl (by kernel_rfl) (by kernel_rfl) (by kernel_rfl) (fun _ _ _ h => h) (yieldsIf_load_mid (by kernel_rfl) _ _ rfl bx 0 (by go_simp) (bc d ++ [Value.slice sa g.length sc]) _ (fun u hSu => Row.midT hSu.2.2.1 0 (by rw [List.drop_zero, List.take_length])) Tryd.underlying63 rfl hI33) HS0 ?_
    simp only [Act.put, List.setIfInBounds_toArray, List.set_cons_zero, List.set_cons_succ]
    simp only [List.getElem_toArray, List.getElem_cons_succ, List.getElem_cons_zero, Act.put, List.setIfInBounds_toArray, List.set_cons_zero, List.set_cons_succ]
    refine wpAnyH_ready (rs := [9]) (by kernel_rfl) (by simp) ?_
    refine AllReadyH.moreT (wpOp_mapT rfl rfl _ _ _ _ rfl rfl (.map (some k)) (.int .i64 i) (.agg (bc d ++ [Value.slice sa g.length sc]).toArray) rfl rfl rfl w7 hup ⟨HS7, ?_⟩) AllReadyH.nil
    refine wpAnyH_done (by kernel_rfl) ?_ _
    go_wp2_with fail
    go_meet
    case rel => exact ⟨rfl, rfl⟩
  case rest =>
  obtain ⟨rfl, rfl⟩ := hcut
  have rX7 := HS7.2.2.1
  clear HS0 HS7 HLK hup g7 bxy hxy
  obtain ⟨k7, hk71, hk72, hk73, hk74⟩ : ∃ k7, mpT (putT tl s nb i (d, g)) s = .map (some k7) ∧ (s, k7, atT tl s ++ [(i, (d, g))]) ∈ putT tl s nb i (d, g) ∧ RIn wc k7 (atT tl s ++ [(i, (d, g))]) ∧ OkE n cut (s, k7, atT tl s ++ [(i, (d, g))]) := by
    have ha := at_put (tl := tl) (s := s) (nb := nb) (i := i) (c := (d, g))
    rcases h7.at s with ⟨_, e2, _⟩ | ⟨k7, e1, e2, e3, e4⟩
    · rw [ha] at e2
      simp at e2
    · rw [ha] at e2 e3 e4
      exact ⟨k7, e1, e2, e3, e4⟩
  have hl16 := hk74.len16 HF.out.2.2.2.2.2.2.1
  have HOF := (show Hid (∀ u, Below wc.heap.size wc u → Calls Tryd.prog 24 #[.map (some k7), .agg (bc d).toArray] u fun e w' => ∃ va q vc, e = .returned (.slice va q vc) ∧ q = (vts (atT tl s ++ [(i, (d, g))]) d).length ∧ Below u.heap.size u w') from fun u hu => (ofT_some u k7 _ (hk73.mv (hu.block _ hk73.lt) (fun q hq hlt => ⟨hu.block q hlt, trivial⟩)) hk74.dup hl16 (fun c hc => ⟨(hk74.each c hc).2.2.1, (hk74.each c hc).2.2.2.1⟩) d HF.out.2.2.2.2.2.1 HF.out.2.2.2.2.2.2.2.2).mono fun e w' ⟨v', zs, h1, h2, h3, h4⟩ => by
    obtain ⟨va, vc, e3, _⟩ := h3.form
    exact ⟨va, zs.length, vc, by rw [h1, e3], h2.length_eq, h4⟩)
  have HQ := (show Hid (∀ u : World, Calls Tryd.prog 25 #[.int .i64 n] u fun e w' => e = .returned (.int .i64 (quo n)) ∧ w' = u) from fun u => Bb.quorum_any u n)
  have HB := (show Hid (addB n cut tl s d (i, g) = decide (((vts (atT tl s ++ [(i, (d, g))]) d).length : Int) = quo n)) from by unfold addB; rw [HF.out.1]; rfl)
  have hA : addT n cut tl nb s d (i, g) = putT tl s nb i (d, g) := by unfold addT; rw [HF.out.1]; rfl
  have HFN := (show Hid (∀ u, Below wc.heap.size wc u → Tly u b m n cut (addT n cut tl nb s d (i, g)) ∧ Gs (Own1 m tl) w u) from fun u hu => ⟨by rw [hA]; exact h7.below hu, hG7.trans (Gs.bel (S := Own1 m tl) hu) (fun _ _ h => h)⟩)
  have HR7 := (show Hid (∀ u, Below wc.heap.size wc u → Row u b 56 [.int .i64 n, .int .i64 cut, .map (some m)] ∧ Row u bx 63 (bc d ++ [Value.slice sa g.length sc]) ∧ (Instr.lookup 54 (.map (some m)) (.int .i64 s) false).run Tryd.prog u = .ok (.map (some k7)) u) from fun u hu => ⟨h7.row.below hu, rX7.below hu, by rw [← hk71]; exact h7.look s u (hu.block m h7.map.lt)⟩)
  have B0 : Below wc.heap.size wc wc.drew := ⟨rfl, rfl, rfl, Nat.le_refl _, fun _ _ => rfl⟩
  clear hk71 hk72 hk73 hk74 hl16 rX7 hI33 h7 hG7 hA
  generalize (vts (atT tl s ++ [(i, (d, g))]) d).length = vl at *
  go_upto_region 7 with fail
  try go_simp
  refine wp_region_held_drew (S := fun u => Below wc.heap.size wc u) (by kernel_rfl) B0 (fun hHeld => ?_)
  clear hHeld
  refine wpAnyH_take (i := 0) (v := .pointer (some ⟨b, 0, none⟩)) rfl (by kernel_rfl) (by kernel_rfl) (by kernel_rfl) (fun _ _ _ h => h) (Or.inl ⟨by kernel_rfl, fun u hSu => by go_simp⟩) B0 ?_
  simp only [Act.put, List.setIfInBounds_toArray, List.set_cons_zero, List.set_cons_succ]
  refine wpAnyH_take (i := 1) (v := .pointer (some ⟨b, 0, none⟩)) rfl (by kernel_rfl) (by kernel_rfl) (by kernel_rfl) (fun _ _ _ h => h) (Or.inl ⟨by kernel_rfl, fun u hSu => by go_simp⟩) B0 ?_
  simp only [Act.put, List.setIfInBounds_toArray, List.set_cons_zero, List.set_cons_succ]
  refine wpAnyH_take (i := 2) (v := .pointer (some ⟨b, 2, none⟩)) rfl (by kernel_rfl) (by kernel_rfl) (by kernel_rfl) (fun _ _ _ h => h) (Or.inl ⟨by kernel_rfl, fun u hSu => by go_simp⟩) B0 ?_
  simp only [Act.put, List.setIfInBounds_toArray, List.set_cons_zero, List.set_cons_succ]
  refine wpAnyH_take (i := 3) (v := .map (some m)) rfl (by kernel_rfl) (by kernel_rfl) (by kernel_rfl) (fun _ _ _ h => h) (Or.inl ⟨by kernel_rfl, fun u hSu => by have hck := ((HR7.out u hSu).1).cell (j := 2) rfl; go_simp⟩) B0 ?_
  simp only [Act.put, List.setIfInBounds_toArray, List.set_cons_zero, List.set_cons_succ]
  refine wpAnyH_take (i := 4) (v := .int .i64 s) rfl (by kernel_rfl) (by kernel_rfl) (by kernel_rfl) (fun _ _ _ h => h) (Or.inl ⟨by kernel_rfl, fun u hSu => by go_simp⟩) B0 ?_
  simp only [Act.put, List.setIfInBounds_toArray, List.set_cons_zero, List.set_cons_succ]
  refine wpAnyH_take (i := 5) (v := .map (some k7)) rfl (by kernel_rfl) (by kernel_rfl) (by kernel_rfl) (fun _ _ _ h => h) (Or.inl ⟨by kernel_rfl, fun u hSu => by have hck := (HR7.out u hSu).2.2; go_simp⟩) B0 ?_
  simp only [Act.put, List.setIfInBounds_toArray, List.set_cons_zero, List.set_cons_succ]
  refine wpAnyH_take (i := 6) (v := .pointer (some ⟨bx, 0, none⟩)) rfl (by kernel_rfl) (by kernel_rfl) (by kernel_rfl) (fun _ _ _ h => h) (Or.inl ⟨by kernel_rfl, fun u hSu => by go_simp⟩) B0 ?_
  simp only [Act.put, List.setIfInBounds_toArray, List.set_cons_zero, List.set_cons_succ]
  refine wpAnyH_take (i := 7) (v := .agg (bc d).toArray) rfl (by kernel_rfl) (by kernel_rfl) (by kernel_rfl) (fun _ _ _ h => h) (yieldsIf_load_mid (by kernel_rfl) _ _ rfl bx 0 (by go_simp) (bc d) _ (fun u hSu => Row.midT (HR7.out u hSu).2.1 0 (by rw [List.drop_zero, List.take_left])) Tryd.underlying60 rfl hI32) B0 ?_
  simp only [Act.put, List.setIfInBounds_toArray, List.set_cons_zero, List.set_cons_succ]
  refine wpAnyH_take (i := 10) (v := .pointer (some ⟨b, 0, none⟩)) rfl (by kernel_rfl) (by kernel_rfl) (by kernel_rfl) (fun _ _ _ h => h) (Or.inl ⟨by kernel_rfl, fun u hSu => by go_simp⟩) B0 ?_
  simp only [Act.put, List.setIfInBounds_toArray, List.set_cons_zero, List.set_cons_succ]
  refine wpAnyH_take (i := 11) (v := .pointer (some ⟨b, 0, none⟩)) rfl (by kernel_rfl) (by kernel_rfl) (by kernel_rfl) (fun _ _ _ h => h) (Or.inl ⟨by kernel_rfl, fun u hSu => by go_simp⟩) B0 ?_
  simp only [Act.put, List.setIfInBounds_toArray, List.set_cons_zero, List.set_cons_succ]
  refine wpAnyH_take (i := 12) (v := .pointer (some ⟨b, 0, none⟩)) rfl (by kernel_rfl) (by kernel_rfl) (by kernel_rfl) (fun _ _ _ h => h) (Or.inl ⟨by kernel_rfl, fun u hSu => by go_simp⟩) B0 ?_
  simp only [Act.put, List.setIfInBounds_toArray, List.set_cons_zero, List.set_cons_succ]
  refine wpAnyH_take (i := 13) (v := .int .i64 n) rfl (by kernel_rfl) (by kernel_rfl) (by kernel_rfl) (fun _ _ _ h => h) (Or.inl ⟨by kernel_rfl, fun u hSu => by have hck := ((HR7.out u hSu).1).cell (j := 0) rfl; go_simp⟩) B0 ?_
  simp only [Act.put, List.setIfInBounds_toArray, List.set_cons_zero, List.set_cons_succ]
  simp only [List.getElem_toArray, List.getElem_cons_succ, List.getElem_cons_zero, Act.put, List.setIfInBounds_toArray, List.set_cons_zero, List.set_cons_succ]
  refine wpAnyH_ready (rs := [8]) (by kernel_rfl) (by simp) ?_
  refine AllReadyH.cons (o := _) rfl (fun K hK => ?_) AllReadyH.nil
  · go_simp
    refine (HOF.out _ B0).mono ?_
    rintro e u1 ⟨va, q, vc, rfl, rfl, bb1⟩
    have B1 := below_and B0 (Nat.le_refl _) bb1
    try go_simp
    refine hK.out _ _ B1 (fun hHeld => ?_)
    clear hK K hHeld
    refine wpAnyH_take (i := 9) (v := .int .i64 (q : Int)) rfl (by kernel_rfl) (by kernel_rfl) (by kernel_rfl) (fun _ _ _ h => h) (Or.inl ⟨by kernel_rfl, fun u hSu => by go_simp⟩) B1 ?_
    simp only [Act.put, List.setIfInBounds_toArray, List.set_cons_zero, List.set_cons_succ]
    refine wpAnyH_ready (rs := [14]) (by kernel_rfl) (by simp) ?_
    refine AllReadyH.cons (o := _) rfl (fun K hK => ?_) AllReadyH.nil
    go_simp
    refine (HQ.out _).mono ?_
    rintro e u2 ⟨rfl, rfl⟩
    try go_simp
    refine hK.out _ _ B1 (fun hHeld => ?_)
    clear hK K hHeld
    refine wpAnyH_take (i := 15) (v := .bool ((q : Int) == quo n)) rfl (by kernel_rfl) (by kernel_rfl) (by kernel_rfl) (fun _ _ _ h => h) (Or.inl ⟨by kernel_rfl, fun u hSu => by go_simp⟩) B1 ?_
    simp only [Act.put, List.setIfInBounds_toArray, List.set_cons_zero, List.set_cons_succ]
    refine wpAnyH_ready (rs := [16]) (by kernel_rfl) (by simp) ?_
    refine AllReadyH.cons (o := _) rfl (fun K hK => ?_) AllReadyH.nil
    go_simp
    refine hK.out _ _ B1 (fun hHeld => ?_)
    clear hK K hHeld
    refine wpAnyH_done (by kernel_rfl) ?_ _
    go_wp2_with fail
    go_ret
    exact ⟨nb, hnb, by rw [HB.out]; rfl, (HFN.out _ B1).1, (HFN.out _ B1).2⟩
end
section
open Go.RowKit Oct Stb MI Bal Sha
/-- What Cert tells: nothing, or the digest of a quorum's votes, and the first of them by their signers. -/
def crtR (n : Int) (ch : PIn) (d : List Int) (ls : List PVote) : Prop := (crtD n ch = none ∧ d = [] ∧ ls = []) ∨ (crtD n ch = some d ∧ ∃ zs, Srt ks zs ∧ zs.Perm (vts ch d) ∧ ls = zs.take (quo n).toNat)
theorem All2.takeT {α β : Type} {R : α → β → Prop} : ∀ {xs : List α} {ys : List β}, All2 R xs ys → ∀ k, All2 R (xs.take k) (ys.take k)
  | [], [], _, k => by simp [All2]
  | x :: xs, y :: ys, h, 0 => trivial
  | x :: xs, y :: ys, h, k + 1 => ⟨h.1, All2.takeT h.2 k⟩
  | [], _ :: _, h, _ => h.elim
  | _ :: _, [], h, _ => h.elim
theorem sam_perm {ys zs : List PVote} (h : Sam ks ys zs) : zs.Perm ys := by
  have := h.2
  refine List.perm_iff_count.2 fun a => ?_
  have h1 := congrArg (fun l => List.count a l) (this (ks a))
  have e1 := List.count_filter (l := zs) (p := fun x => decide (ks x = ks a)) (a := a) (by simp)
  have e2 := List.count_filter (l := ys) (p := fun x => decide (ks x = ks a)) (a := a) (by simp)
  exact e1.symm.trans (h1.trans e2)
theorem RL.takeV {w : World} {b off n cap q : Nat} {ys : List PVote} (h : RL RVote 2 Any w (.slice (some ⟨b, off, none⟩) n cap) ys) (hn : n = ys.length) (hq : q ≤ n) (hp : 0 < q) : RL RVote 2 Any w (.slice (some ⟨b, off, none⟩) q cap) (ys.take q) := by
  obtain ⟨rows, ⟨h0, h1⟩, h2⟩ := h
  have hlen := h2.len
  refine ⟨rows.take q, ⟨fun r hr => h0 r (List.mem_of_mem_take hr), ?_⟩, All2.takeT h2 q⟩
  rcases h1 with ⟨ao, c, e, e2, _⟩ | ⟨b', off', cap', e, e2, e3, e4, e5, e6, e7⟩
  · rw [e2] at hlen
    simp at hlen
    omega
  · injection e with e8 e9 e10
    have e11 := Option.some.inj e8
    injection e11 with e12 e13
    subst e12 e13 e10
    have hl : (rows.take q).length = q := by rw [List.length_take]; omega
    refine .inr ⟨_, _, _, by rw [hl], by rw [hl]; omega, e3, by omega, trivial, e6, fun i r hr => e7 i r ?_⟩
    rw [List.getElem?_take] at hr
    split at hr
    · exact hr
    · cases hr
theorem vts_get {ch : PIn} {n s : Int} {cut : Int} {k : Nat} (h : OkE n cut (s, k, ch)) {d : List Int} {v : PVote} (hv : v ∈ vts ch d) : 0 ≤ v.1 ∧ v.1 < n ∧ d.length = 32 ∧ rgtC s d v = true := by
  unfold vts at hv
  obtain ⟨z, hz, rfl⟩ := List.mem_map.1 hv
  obtain ⟨hz1, hz2⟩ := List.mem_filter.1 hz
  have hzd : z.2.1 = d := by simpa using hz2
  have := h.each z hz1
  rw [hzd] at this
  exact ⟨this.1, this.2.1, this.2.2.1, this.2.2.2.2⟩
theorem vts_szL {ch : PIn} {n s : Int} {cut : Int} {k : Nat} (h : OkE n cut (s, k, ch)) (hl : ch.length ≤ 16) {d : List Int} {zs : List PVote} (hp : zs.Perm (vts ch d)) : szL 32 szV zs := by
  refine ⟨?_, fun y hy => ?_⟩
  · have h1 := hp.length_eq
    have h2 := vts_len ch d
    omega
  · have h1 := vts_get h (hp.mem_iff.1 hy)
    have h2 := (rgt_sig h1.2.2.2).1
    show szT y.2
    unfold szT
    omega
theorem sliceArr (N : Nat) (u : World) : (Instr.sliceAt 60 (.pointer (some ⟨N, 0, none⟩)) none none none).run Tryd.prog u = .ok (.slice (some ⟨N, 0, none⟩) 32 32) u := by kernel_rfl
theorem sliceV (b off n cap : Nat) (q : Int) (h0 : 0 ≤ q) (h1 : q.toNat ≤ cap) (u : World) : (Instr.slice 32 (.slice (some ⟨b, off, none⟩) n cap) none (some (.int .i64 q)) none).run Tryd.prog u = .ok (.slice (some ⟨b, off, none⟩) q.toNat cap) u := by
  have ht : Tryd.prog.underlying 32 = some (.slice (Tryd.prog.elem 32)) := by kernel_rfl
  rw [run_slice_h u 32 (some ⟨b, off, none⟩) n cap ht .i64 q h0 (by omega)]
  have hs : (sizeOf (Tryd.prog.elem 32)).run Tryd.prog u = .ok 2 u := by
    rw [show Tryd.prog.elem 32 = 28 by kernel_rfl]
    obtain ⟨i0, hi, hz0, hz1, hz2⟩ := info_parts Tryd.infVoteS
    simp [sizeOf, typeInfo, hi, hz1]
  rw [hs]
  simp [Result.andThen, sliced, Addr.add]
theorem in_one {ch : PIn} (hb : (keysI ch).Nodup) {a c : Int × PCh} (ha : a ∈ ch) (hc : c ∈ ch) (h : a.1 = c.1) : a = c := by
  unfold keysI at hb
  induction ch with
  | nil => cases ha
  | cons x xs ih =>
    obtain ⟨hx, hxs⟩ := List.nodup_cons.1 hb
    rcases List.mem_cons.1 ha with ea | ha2
    · rcases List.mem_cons.1 hc with eb | hc2
      · rw [ea, eb]
      · exact absurd (List.mem_map.2 ⟨c, hc2, by rw [← h, ea]⟩) hx
    · rcases List.mem_cons.1 hc with eb | hc2
      · exact absurd (List.mem_map.2 ⟨a, ha2, by rw [h, eb]⟩) hx
      · exact ih hxs ha2 hc2
theorem rd_row {w : World} {N : Nat} {t : TypeId} {d : List Int} {x : List Value} (h : Row w N t (bc d ++ x)) (h32 : d.length = 32) (hb : Byt d) : Rd w (.slice (some ⟨N, 0, none⟩) 32 32) d := by
  refine ⟨hb, some ⟨N, 0, none⟩, 32, by rw [bc_len, h32], by rw [bc_len, h32]; decide, by unfold maxLen; decide, (fun e => by cases e), fun a ha j u hu => ?_⟩
  have ha := Option.some.inj ha
  subst ha
  rw [Addr.add_mid, Nat.zero_add]
  refine h.cell ?_
  rw [List.getElem?_append_left (List.getElem?_eq_some_iff.1 hu).1]
  exact hu
set_option maxRecDepth 10000 in
set_option maxHeartbeats 8000000 in
theorem certT_nil {b m : Nat} {n cut : Int} {tl : PTl} (w : World) (h : Tly w b m n cut tl) (s : Int) (hs : mpT tl s = .map none) :
    Calls Tryd.prog 11 #[.pointer (some ⟨b, 0, none⟩), .int .i64 s] w fun e w' => e = .returned (.tuple #[.slice none 0 0, .slice none 0 0]) ∧ Below w.heap.size w w' := by
  have hlk := h.look s w rfl
  rw [hs] at hlk
  have c0 := h.row.cell (j := 0) rfl
  have c2 := h.row.cell (j := 2) rfl
  have hrg := run_range_nilMap (P := Tryd.prog) w 59 3 63 Tryd.underlying59
  have hit : (w.alloc (.mapIter none 0 #[] 0)).heap[w.heap.size]? = some (.mapIter none 0 #[] 0) := heap_alloc_new w _
  have B2 : Below w.heap.size w (w.alloc (.mapIter none 0 #[] 0)) := below_alloc _ _
  have HQ := (show Hid (∀ u : World, Calls Tryd.prog 25 #[.int .i64 n] u fun e w' => e = .returned (.int .i64 (quo n)) ∧ w' = u) from fun u => Bb.quorum_any u n)
  clear h hs
  generalize quo n = q at *
  go_enter Tryd.func11, Tryd.ntmps11
  go_upto_region 3 with (go_at_call 25; refine (HQ.out _).mono ?_; rintro e u2 ⟨rfl, hu⟩; rw [hu]; clear hu u2)
  go_loopw [9] (fun o wr => wr = w.alloc (.mapIter none 0 #[] 0)) (fun _ _ => 0)
  case atStart => rfl
  case round =>
    obtain rfl := hrel
    go_wp2_with (at_next; refine wl_nextN rfl _ rfl hit rfl ?_)
    go_ret2
    exact ⟨rfl, B2⟩
set_option maxRecDepth 10000 in
set_option maxHeartbeats 8000000 in
theorem certT_any {b m : Nat} {n cut : Int} {tl : PTl} (w : World) (h : Tly w b m n cut tl) (s : Int) :
    Calls Tryd.prog 11 #[.pointer (some ⟨b, 0, none⟩), .int .i64 s] w fun e w' => ∃ dv lv, e = .returned (.tuple #[dv, lv]) ∧ ∃ d, Rd w' dv d ∧ ∃ ls, RL RVote 2 Any w' lv ls ∧ crtR n (atT tl s) d ls ∧ Below w.heap.size w w' := by
  rcases h.at s with ⟨e1, e2, e3⟩ | ⟨k, e1, e2, e3, e4⟩
  · refine (certT_nil w h s e1).mono ?_
    rintro e w' ⟨rfl, hb⟩
    exact ⟨_, _, rfl, [], (RT.nil Any w').1, [], RL.nil _ _ _ _, .inl ⟨by rw [e2]; rfl, rfl, rfl⟩, hb⟩
  have hrn := h.ok.right (fun e => by rw [e] at e2; cases e2)
  have hl16 := e4.len16 hrn
  obtain ⟨l, hm, hA⟩ := e3
  have hkeys := RIn.keys hA
  obtain ⟨es0, clock, hb0, hE, hle⟩ := hm.ens (by rw [hkeys]; exact e4.dup)
  have hkl := hm.lt
  have hlk := h.look s w rfl
  rw [e1] at hlk
  have c0 := h.row.cell (j := 0) rfl
  have c2 := h.row.cell (j := 2) rfl
  have hrg := run_range_map (P := Tryd.prog) w 59 _ _ k es0.toArray clock Tryd.underlying59 hb0
  have hI := IR.start hb0
  have B2 := below_alloc w (.mapIter (some k) clock #[] clock)
  have hlt2 : w.heap.size < (w.alloc (.mapIter (some k) clock #[] clock)).heap.size := by simp
  have HW := (show Hid (∀ e ∈ es0, ∃ c ∈ atT tl s, unK e.key = c.1 ∧ ∃ sg, e.val = .agg (bc c.2.1 ++ [sg]).toArray ∧ RT Any w sg c.2.2) from fun e he => by
    have hm2 : (e.key, e.val) ∈ es0.map (fun e => (e.key, e.val)) := List.mem_map.2 ⟨e, he, rfl⟩
    rw [hle] at hm2
    obtain ⟨z, hz, hze⟩ := List.mem_map.1 hm2
    obtain ⟨c, hc, h1, sg, h2, h3⟩ := All2.find hA hz
    injection hze with e1 e2
    exact ⟨c, hc, by rw [← e1]; exact h1, sg, by rw [← e2]; exact h2, h3⟩)
  have HK := (show Hid (es0.map (fun e => unK e.key) = keysI (atT tl s)) from by
    have := congrArg (List.map (fun x : Value × Value => unK x.1)) hle
    simp only [List.map_map, Function.comp_def] at this
    rw [← hkeys]
    exact this)
  have HE := (show Hid (En es0 clock) from hE)
  have HH := (show Hid (Tly w b m n cut tl ∧ OkE n cut (s, k, atT tl s) ∧ (atT tl s).length ≤ 16 ∧ rgt n = true ∧ mpT tl s = .map (some k)) from ⟨h, e4, hl16, hrn, e1⟩)
  have HOF := (show Hid (∀ u d, Below w.heap.size w u → d.length = 32 → Byt d → Calls Tryd.prog 24 #[.map (some k), .agg (bc d).toArray] u fun e w' => ∃ va vc zs, e = .returned (.slice va zs.length vc) ∧ zs.Perm (vts (atT tl s) d) ∧ RL RVote 2 Any w' (.slice va zs.length vc) zs ∧ Below u.heap.size u w') from fun u d hu h1 h2 => (ofT_some u k _ (RIn.mv ⟨l, hm, hA⟩ (hu.block _ hkl) (fun q hq hlt => ⟨hu.block q hlt, trivial⟩)) e4.dup hl16 (fun c hc => ⟨(e4.each c hc).2.2.1, (e4.each c hc).2.2.2.1⟩) d h1 h2).mono fun e w' ⟨v', zs, h1, h2, h3, h4⟩ => by
    obtain ⟨va, vc, e3, _⟩ := h3.form
    subst e3
    exact ⟨va, vc, zs, h1, h2, h3, h4⟩)
  have HQ := (show Hid (∀ u : World, Calls Tryd.prog 25 #[.int .i64 n] u fun e w' => e = .returned (.int .i64 (quo n)) ∧ w' = u) from fun u => Bb.quorum_any u n)
  have HLK := (show Hid (∀ u, Below w.heap.size w u → Row u b 56 [.int .i64 n, .int .i64 cut, .map (some m)] ∧ (Instr.lookup 54 (.map (some m)) (.int .i64 s) false).run Tryd.prog u = .ok (.map (some k)) u) from fun u hu => ⟨h.row.below hu, by rw [← e1]; exact h.look s u (hu.block m h.map.lt)⟩)
  have hq1 : 1 ≤ quo n := by
    have h1 := quo_yes hrn
    have h2 := fau_ge hrn
    omega
  have HQ1 := (show Hid (1 ≤ quo n) from hq1)
  clear hA hkeys hm hle hb0 hE h e1 e2 e4 hl16 hrn hq1
  obtain ⟨qn, hqn⟩ : ∃ qn, qn = quo n := ⟨_, rfl⟩
  rw [← hqn] at HQ HQ1
  have HQN := (show Hid (qn = quo n) from hqn)
  clear hqn
  go_enter Tryd.func11, Tryd.ntmps11
  go_upto_region 3 with (go_at_call 25; refine (HQ.out _).mono ?_; rintro e u2 ⟨rfl, hu⟩; rw [hu]; clear hu u2)
  clear hrg hlk c0 c2
  generalize hw2 : w.alloc (.mapIter (some k) clock #[] clock) = w2 at *
  clear hw2
  go_loopw [9] (fun o wr => ∃ (dn : List MapEntry), IR wr k w.heap.size es0 clock dn ∧ Hid (∀ e ∈ dn, ∀ c ∈ atT tl s, unK e.key = c.1 → ¬ quo n ≤ ((vts (atT tl s) c.2.1).length : Int)) ∧ Below w.heap.size w wr ∧ w.heap.size < wr.heap.size) (fun _ wr => wr.rangeLeft k w.heap.size)
  case atStart => exact ⟨[], hI, fun e he => (by cases he), B2, hlt2⟩
  case round =>
    clear hI hlt2 B2
    obtain ⟨dn, hi, hD, hB, hlt⟩ := hrel
    go_upto_region 4 with (at_next; refine wl_nextR rfl _ rfl HE.out hi rfl (fun hall => ?_) (fun e q v w3 he hne hk hv hi3 hg3 hen => ?_); (replace hall := (show Hid _ from hall)); rotate_left; (replace he := (show Hid _ from he); replace hne := (show Hid _ from hne)); rotate_left)
    · go_ret2
      refine ⟨_, _, rfl, [], (RT.nil Any _).1, [], RL.nil _ _ _ _, .inl ⟨crt_none fun z hz => ?_, rfl, rfl⟩, hB⟩
      have hzk : z.1 ∈ es0.map (fun e => unK e.key) := by rw [HK.out]; exact List.mem_map.2 ⟨z, hz, rfl⟩
      obtain ⟨e, he, hek⟩ := List.mem_map.1 hzk
      have := hD.out e (hall.out.mem_iff.2 he) z hz hek
      omega
    · have hI3 := (show Hid (wr.rangeLeft k w.heap.size > w3.rangeLeft k w.heap.size) from hi.less hi3 he.out hne.out)
      obtain ⟨c, hc, hq1, sg, hq2, hq3⟩ := HW.out e he.out
      have hv2 : v = .agg (bc c.2.1 ++ [sg]).toArray := by rw [← hv.out]; exact hq2
      subst hv2
      obtain ⟨sa, sc, rfl, _⟩ := hq3.form
      have hB3 : Below w.heap.size w w3 := hB.trans (grown_below hg3 hB.size (fun k hk => by cases hk; exact Nat.le_refl _))
      have hlt3 : w.heap.size < w3.heap.size := Nat.lt_of_lt_of_le hlt hg3.size
      have H32 := HH.out.2.1.each c hc
      have HC := (show Hid (c ∈ atT tl s ∧ c.2.1.length = 32 ∧ Byt c.2.1 ∧ unK e.key = c.1 ∧ Hid (∀ e2 ∈ dn ++ [e], e2 ∈ es0)) from ⟨hc, H32.2.2.1, H32.2.2.2.1, hq1, hi3.sub⟩)
      have hR0 := Row.new w3 63 [.int .u8 0, .int .u8 0, .int .u8 0, .int .u8 0, .int .u8 0, .int .u8 0, .int .u8 0, .int .u8 0, .int .u8 0, .int .u8 0, .int .u8 0, .int .u8 0, .int .u8 0, .int .u8 0, .int .u8 0, .int .u8 0, .int .u8 0, .int .u8 0, .int .u8 0, .int .u8 0, .int .u8 0, .int .u8 0, .int .u8 0, .int .u8 0, .int .u8 0, .int .u8 0, .int .u8 0, .int .u8 0, .int .u8 0, .int .u8 0, .int .u8 0, .int .u8 0, .slice none 0 0]
      have hBz := below_alloc w3 (.cells #[.int .u8 0, .int .u8 0, .int .u8 0, .int .u8 0, .int .u8 0, .int .u8 0, .int .u8 0, .int .u8 0, .int .u8 0, .int .u8 0, .int .u8 0, .int .u8 0, .int .u8 0, .int .u8 0, .int .u8 0, .int .u8 0, .int .u8 0, .int .u8 0, .int .u8 0, .int .u8 0, .int .u8 0, .int .u8 0, .int .u8 0, .int .u8 0, .int .u8 0, .int .u8 0, .int .u8 0, .int .u8 0, .int .u8 0, .int .u8 0, .int .u8 0, .int .u8 0, .slice none 0 0] 63)
      have h33 : (bc c.2.1 ++ [Value.slice sa c.2.2.length sc]).length = 33 := by rw [List.length_append, bc_len, H32.2.2.1]; rfl
      have hi33 : (Tryd.prog.info? 63).map (·.size) = some (bc c.2.1 ++ [Value.slice sa c.2.2.length sc]).length := by rw [h33]; kernel_rfl
      have hone : ∀ v ∈ bc c.2.1 ++ [Value.slice sa c.2.2.length sc], v.oneCell' = true := fun v hv => by
        rcases List.mem_append.1 hv with hv | hv
        · exact bc_one _ v hv
        · simp at hv
          subst hv
          exact hq3.one
      clear hi hB hlt hq1 hq2 hg3 hv hk he H32 hc
      go_upto_region 5 with (refine wl_store rfl _ _ _ rfl w3.heap.size (bc c.2.1 ++ [Value.slice sa c.2.2.length sc]) rfl rfl _ _ hR0 (by rw [h33]; rfl) hi33 hone ?_; intro w5 r5 g5)
      have r5 := r5.out
      have b5 : Below w3.heap.size w3 w5 := hBz.trans (grown_below g5 hBz.size (fun k hk => by cases hk; exact Nat.le_refl _))
      have hs5 : w3.heap.size < w5.heap.size := r5.lt
      have hB5 := hB3.trans (b5.mono (by omega))
      have hi5 := hi3.below b5
      have hI5 := (show Hid (wr.rangeLeft k w.heap.size > w5.rangeLeft k w.heap.size) from by
        have := hI3.out
        rw [hi3.left] at this
        show _ < _
        rw [hi5.left]
        exact this)
      have hc32 : (Tryd.prog.info? 60).map (·.size) = some (bc c.2.1).length := by rw [bc_len, HC.out.2.1]; kernel_rfl
      have B0 : Below w5.heap.size w5 w5.drew := ⟨rfl, rfl, rfl, Nat.le_refl _, fun _ _ => rfl⟩
      have hsz5 : w.heap.size ≤ w5.heap.size := by omega
      have hlt5 : w.heap.size < w5.heap.size := by omega
      have HR5 := (show Hid (∀ u, Below w5.heap.size w5 u → Row u w3.heap.size 63 (bc c.2.1 ++ [Value.slice sa c.2.2.length sc]) ∧ Row u b 56 [.int .i64 n, .int .i64 cut, .map (some m)] ∧ (Instr.lookup 54 (.map (some m)) (.int .i64 s) false).run Tryd.prog u = .ok (.map (some k)) u ∧ Below w.heap.size w u) from fun u hu => ⟨r5.below hu, (HLK.out u (hB5.trans (hu.mono hsz5))).1, (HLK.out u (hB5.trans (hu.mono hsz5))).2, hB5.trans (hu.mono hsz5)⟩)
      clear hR0 hBz g5 b5 hB3 hi3 hI3 r5 hs5 hone hi33 h33 hq3
      generalize w3.heap.size = N3 at *
      try go_simp
      refine wp_region_held_drew (S := fun u => Below w5.heap.size w5 u) (by kernel_rfl) B0 (fun hHeld => ?_)
      clear hHeld
      refine wpAnyH_take (i := 0) (v := .pointer (some ⟨b, 0, none⟩)) rfl (by kernel_rfl) (by kernel_rfl) (by kernel_rfl) (fun _ _ _ h => h) (Or.inl ⟨by kernel_rfl, fun u hSu => by go_simp⟩) B0 ?_
      simp only [Act.put, List.setIfInBounds_toArray, List.set_cons_zero, List.set_cons_succ]
      refine wpAnyH_take (i := 1) (v := .pointer (some ⟨b, 0, none⟩)) rfl (by kernel_rfl) (by kernel_rfl) (by kernel_rfl) (fun _ _ _ h => h) (Or.inl ⟨by kernel_rfl, fun u hSu => by go_simp⟩) B0 ?_
      simp only [Act.put, List.setIfInBounds_toArray, List.set_cons_zero, List.set_cons_succ]
      refine wpAnyH_take (i := 2) (v := .pointer (some ⟨b, 2, none⟩)) rfl (by kernel_rfl) (by kernel_rfl) (by kernel_rfl) (fun _ _ _ h => h) (Or.inl ⟨by kernel_rfl, fun u hSu => by go_simp⟩) B0 ?_
      simp only [Act.put, List.setIfInBounds_toArray, List.set_cons_zero, List.set_cons_succ]
      refine wpAnyH_take (i := 3) (v := .map (some m)) rfl (by kernel_rfl) (by kernel_rfl) (by kernel_rfl) (fun _ _ _ h => h) (Or.inl ⟨by kernel_rfl, fun u hSu => by have hck := ((HR5.out u hSu).2.1).cell (j := 2) rfl; go_simp⟩) B0 ?_
      simp only [Act.put, List.setIfInBounds_toArray, List.set_cons_zero, List.set_cons_succ]
      refine wpAnyH_take (i := 4) (v := .int .i64 s) rfl (by kernel_rfl) (by kernel_rfl) (by kernel_rfl) (fun _ _ _ h => h) (Or.inl ⟨by kernel_rfl, fun u hSu => by go_simp⟩) B0 ?_
      simp only [Act.put, List.setIfInBounds_toArray, List.set_cons_zero, List.set_cons_succ]
      refine wpAnyH_take (i := 5) (v := .map (some k)) rfl (by kernel_rfl) (by kernel_rfl) (by kernel_rfl) (fun _ _ _ h => h) (Or.inl ⟨by kernel_rfl, fun u hSu => by have hck := (HR5.out u hSu).2.2.1; go_simp⟩) B0 ?_
      simp only [Act.put, List.setIfInBounds_toArray, List.set_cons_zero, List.set_cons_succ]
      refine wpAnyH_take (i := 6) (v := .pointer (some ⟨N3, 0, none⟩)) rfl (by kernel_rfl) (by kernel_rfl) (by kernel_rfl) (fun _ _ _ h => h) (Or.inl ⟨by kernel_rfl, fun u hSu => by go_simp⟩) B0 ?_
      simp only [Act.put, List.setIfInBounds_toArray, List.set_cons_zero, List.set_cons_succ]
      refine wpAnyH_take (i := 7) (v := .agg (bc c.2.1).toArray) rfl (by kernel_rfl) (by kernel_rfl) (by kernel_rfl) (fun _ _ _ h => h) (yieldsIf_load_mid (by kernel_rfl) _ _ rfl N3 0 (by go_simp) (bc c.2.1) _ (fun u hSu => Row.midT (HR5.out u hSu).1 0 (by rw [List.drop_zero, List.take_left])) Tryd.underlying60 rfl hc32) B0 ?_
      simp only [Act.put, List.setIfInBounds_toArray, List.set_cons_zero, List.set_cons_succ]
      simp only [List.getElem_toArray, List.getElem_cons_succ, List.getElem_cons_zero, Act.put, List.setIfInBounds_toArray, List.set_cons_zero, List.set_cons_succ]
      refine wpAnyH_ready (rs := [8]) (by kernel_rfl) (by simp) ?_
      refine AllReadyH.cons (o := _) rfl (fun K hK => ?_) AllReadyH.nil
      go_simp
      refine (HOF.out _ c.2.1 (HR5.out _ B0).2.2.2 HC.out.2.1 HC.out.2.2.1).mono ?_
      rintro e u1 ⟨va, vc, zs, rfl, hpz, hrl, bb1⟩
      have B1 := below_and B0 (Nat.le_refl _) bb1
      try go_simp
      refine hK.out _ _ B1 (fun hHeld => ?_)
      clear hK K hHeld
      refine wpAnyH_ready (rs := [9]) (by kernel_rfl) (by simp) ?_
      refine AllReadyH.cons (o := _) rfl (fun K hK => ?_) AllReadyH.nil
      go_simp
      refine hK.out _ _ B1 (fun hHeld => ?_)
      clear hK K hHeld
      refine wpAnyH_done (by kernel_rfl) ?_ _
      by_cases hcnt : quo n ≤ (zs.length : Int)
      · have hdc : decide (qn ≤ (zs.length : Int)) = true := by rw [HQN.out]; exact decide_eq_true hcnt
        have HCN := (show Hid (quo n ≤ (zs.length : Int)) from hcnt)
        clear hcnt
        have hz0 : 0 < zs.length := by have h1 := HQ1.out; have h2 := HQN.out; have h3 := HCN.out; omega
        have HVS := (show Hid (∀ u, Below u1.heap.size u1 u → Calls Tryd.prog 26 #[.slice va zs.length vc] u fun e w' => ∃ vb vo vn vcap zs2, e = .returned (.slice (some ⟨vb, vo, none⟩) vn vcap) ∧ vn = zs2.length ∧ vn = zs.length ∧ vn ≤ vcap ∧ RL RVote 2 Any w' (.slice (some ⟨vb, vo, none⟩) vn vcap) zs2 ∧ Srt ks zs2 ∧ zs2.Perm (vts (atT tl s) c.2.1) ∧ Below u.heap.size u w') from fun u hu => (vSort_any u _ zs (hrl.mv mov_vote hu.size (Mv.below hu)) (vts_szL HH.out.2.1 HH.out.2.2.1 hpz)).mono fun e w' ⟨v2, zs2, h1, h2, h3, h4, h5⟩ => by
          have hl := h4.1
          obtain ⟨vb, vo, vcap, e1, e2, _⟩ := h2.at (by rw [hl]; exact hz0)
          subst e1
          exact ⟨vb, vo, zs2.length, vcap, zs2, h1, rfl, hl, e2, h2.mv mov_vote (Nat.le_refl _) Mv.any, h3, (sam_perm h4).trans hpz, h5⟩)
        clear hrl
        have HPZ := (show Hid (zs.Perm (vts (atT tl s) c.2.1)) from hpz)
        clear hpz hi5
        go_upto_region 7 with fail
        have BB := B1
        have B0' : Below u1.heap.size u1 u1.drew := ⟨rfl, rfl, rfl, Nat.le_refl _, fun _ _ => rfl⟩
        have hsa := fun u : World => sliceArr N3 u
        try go_simp
        refine wp_region_held_drew (S := fun u => Below u1.heap.size u1 u) (by kernel_rfl) B0' (fun hHeld => ?_)
        clear hHeld
        refine wpAnyH_take (i := 0) (v := .pointer (some ⟨N3, 0, none⟩)) rfl (by kernel_rfl) (by kernel_rfl) (by kernel_rfl) (fun _ _ _ h => h) (Or.inl ⟨by kernel_rfl, fun u hSu => by go_simp⟩) B0' ?_
        simp only [Act.put, List.setIfInBounds_toArray, List.set_cons_zero, List.set_cons_succ]
        refine wpAnyH_take (i := 1) (v := .slice (some ⟨N3, 0, none⟩) 32 32) rfl (by kernel_rfl) (by kernel_rfl) (by kernel_rfl) (fun _ _ _ h => h) (Or.inl ⟨by kernel_rfl, fun u hSu => by have hck := sliceArr N3 u; go_simp⟩) B0' ?_
        simp only [Act.put, List.setIfInBounds_toArray, List.set_cons_zero, List.set_cons_succ]
        refine wpAnyH_take (i := 2) (v := .slice va zs.length vc) rfl (by kernel_rfl) (by kernel_rfl) (by kernel_rfl) (fun _ _ _ h => h) (Or.inl ⟨by kernel_rfl, fun u hSu => by go_simp⟩) B0' ?_
        simp only [Act.put, List.setIfInBounds_toArray, List.set_cons_zero, List.set_cons_succ]
        refine wpAnyH_take (i := 4) (v := .int .i64 qn) rfl (by kernel_rfl) (by kernel_rfl) (by kernel_rfl) (fun _ _ _ h => h) (Or.inl ⟨by kernel_rfl, fun u hSu => by go_simp⟩) B0' ?_
        simp only [Act.put, List.setIfInBounds_toArray, List.set_cons_zero, List.set_cons_succ]
        simp only [List.getElem_toArray, List.getElem_cons_succ, List.getElem_cons_zero, Act.put, List.setIfInBounds_toArray, List.set_cons_zero, List.set_cons_succ]
        refine wpAnyH_ready (rs := [3]) (by kernel_rfl) (by simp) ?_
        refine AllReadyH.cons (o := _) rfl (fun K hK => ?_) AllReadyH.nil
        go_simp
        refine (HVS.out _ B0').mono ?_
        rintro e u2 ⟨vb, vo, vn, vcap, zs2, rfl, hvn1, hvn2, hvn3, hrl2, hsr, hpm, bb2⟩
        have B2 := below_and B0' (Nat.le_refl _) bb2
        have hq0 : 0 ≤ qn := by have := HQ1.out; omega
        have hqc : qn.toNat ≤ vcap := by have h1 := HCN.out; have h2 := HQN.out; omega
        have HSV := (show Hid (∀ u : World, (Instr.sliceAt 32 (.slice (some ⟨vb, vo, none⟩) vn vcap) none (some (.int .i64 qn)) none).run Tryd.prog u = .ok (.slice (some ⟨vb, vo, none⟩) qn.toNat vcap) u) from fun u => sliceV vb vo vn vcap qn hq0 hqc u)
        have HL := (show Hid (RL RVote 2 Any u2 (.slice (some ⟨vb, vo, none⟩) vn vcap) zs2 ∧ vn = zs2.length ∧ vn = zs.length) from ⟨hrl2, hvn1, hvn2⟩)
        clear hrl2 hvn1 hvn2 hvn3 hq0 hqc
        try go_simp
        refine hK.out _ _ B2 (fun hHeld => ?_)
        clear hK K hHeld
        refine wpAnyH_take (i := 5) (v := .slice (some ⟨vb, vo, none⟩) qn.toNat vcap) rfl (by kernel_rfl) (by kernel_rfl) (by kernel_rfl) (fun _ _ _ h => h) (Or.inl ⟨by kernel_rfl, fun u hSu => by have hck := HSV.out u; go_simp⟩) B2 ?_
        simp only [Act.put, List.setIfInBounds_toArray, List.set_cons_zero, List.set_cons_succ]
        simp only [List.getElem_toArray, List.getElem_cons_succ, List.getElem_cons_zero, Act.put, List.setIfInBounds_toArray, List.set_cons_zero, List.set_cons_succ]
        have fin : ∃ d, Rd u2 (.slice (some ⟨N3, 0, none⟩) 32 32) d ∧ ∃ ls, RL RVote 2 Any u2 (.slice (some ⟨vb, vo, none⟩) qn.toNat vcap) ls ∧ crtR n (atT tl s) d ls ∧ Below w.heap.size w u2 := by
          have hB52 := below_and B1 (Nat.le_refl _) B2
          refine ⟨c.2.1, rd_row (HR5.out u2 hB52).1 HC.out.2.1 HC.out.2.2.1, zs2.take qn.toNat, ?_, .inr ⟨?_, zs2, hsr, hpm, by rw [HQN.out]⟩, (HR5.out u2 hB52).2.2.2⟩
          · have h1 := HQ1.out
            have h2 := HCN.out
            have h3 := HQN.out
            have h4 := HL.out.2.2
            exact RL.takeV HL.out.1 HL.out.2.1 (by omega) (by omega)
          · refine crt_some HH.out.2.1 HH.out.2.2.2.1 HC.out.1 ?_
            rw [← HPZ.out.length_eq]
            exact HCN.out
        refine wpAnyH_ready (rs := [6]) (by kernel_rfl) (by simp) ?_
        refine AllReadyH.cons (o := _) rfl (fun K hK => ?_) AllReadyH.nil
        go_simp
        refine hK.out _ _ B2 (fun hHeld => ?_)
        clear hK K hHeld
        refine wpAnyH_ready (rs := [7]) (by kernel_rfl) (by simp) ?_
        refine AllReadyH.cons (o := _) rfl (fun K hK => ?_) AllReadyH.nil
        go_simp
        refine hK.out _ _ B2 (fun hHeld => ?_)
        clear hK K hHeld
        refine wpAnyH_done (by kernel_rfl) ?_ _
        go_wp2_with fail
        go_ret2
        exact ⟨_, _, rfl, fin⟩
      · have hdc : decide (qn ≤ (zs.length : Int)) = false := by rw [HQN.out]; exact decide_eq_false hcnt
        have HN := (show Hid (∀ e2 ∈ dn ++ [e], ∀ c ∈ atT tl s, unK e2.key = c.1 → ¬ quo n ≤ ((vts (atT tl s) c.2.1).length : Int)) from fun e2 he2 c2 hc2 hk2 => by
          rcases List.mem_append.1 he2 with he2 | he2
          · exact hD.out e2 he2 c2 hc2 hk2
          · simp at he2
            subst he2
            have : c2 = c := by
              have h1 := HH.out.2.1.dup
              exact in_one h1 hc2 HC.out.1 (hk2.symm.trans HC.out.2.2.2.1)
            rw [this, ← hpz.length_eq]
            exact hcnt)
        have hi6 := (hi5.below B0).below (by exact bb1)
        have hB6 := (HR5.out _ B1).2.2.2
        have hs6 := B1.size
        clear hcnt hpz hrl
        go_wp2_with fail
        go_roundw
        case rel => exact ⟨dn ++ [e], hi6, HN, hB6, by omega⟩
        case measure =>
          have h1 := hi6.left
          have h2 := hi5.left
          have h3 := hI5.out
          rw [h1, ← h2]
          exact h3
end
section
open Go.RowKit Oct Stb MI Bal Sha
end
end Go.Proofs.YtgpkngiakhdmhaaDoor
