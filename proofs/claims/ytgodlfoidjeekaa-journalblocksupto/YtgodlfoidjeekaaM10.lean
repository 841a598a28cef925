/-
  The chain rule where a slot that the region assigns is read ahead of that: it has its old value while what waits for the operation is not done.
  The document's put: a number laid behind.
  The document's filled; zeros appended.
  Regions that draw, along a chain of bytes under way.
  The document's put, behind a constant's bytes.
  The document's PutSuper, PutEntry: a constant's bytes and two numbers.
-/
import Derived.Test.YtgodlfoidjeekaaM01
import Derived.Test.YtgodlfoidjeekaaM07
import Derived.Lib.AppendZerosOnto
import Derived.Laws.CopyRow
namespace Go.Proofs.Ytgodlfoidjeekaa
set_option linter.unusedVariables false
set_option linter.unusedSimpArgs false
open Go.RowKit
set_option linter.unusedVariables false
set_option linter.unusedSimpArgs false

section
variable {P : Program} {ops : Array Oper} {Q : Exit → Act → World → Prop}

/-- An operation, shown once. -/
def Step4 (P : Program) (Q : Exit → Act → World → Prop) (l : List Oper) (RO R Rc : World → World → Prop) (St : Nat → World → Prop) (T : Nat → Nat → Value → World → Prop) (calls : List Nat) (a : Act) (w : World) (i : Nat) (o : Oper) : Prop :=
  ∀ a' w' k, Base l a a' → RO w w' → St k w' → (∀ m, calls[m]? = some i → m = k) → (∀ m j, calls[m]? = some j → Path l j i → k ≤ m) → (∀ m j, calls[m]? = some j → Path l i j → m < k) → (∀ j, depB o j = true → Held l (T k) a' w' j) → (∀ j d, (l[j]?).bind (·.dst) = some d → j = i ∨ Path l j i → a'.tmps.getD d undef = a.tmps.getD d undef) →
    Region.wanted o (yielded l.toArray a'.tmps) = true ∧ o.wp P a' w' (Left2 R Rc St T calls i o k a' w') Q

def Steps4 (P : Program) (Q : Exit → Act → World → Prop) (l : List Oper) (RO R Rc : World → World → Prop) (St : Nat → World → Prop) (T : Nat → Nat → Value → World → Prop) (calls : List Nat) (a : Act) (w : World) : Nat → List Oper → Prop
  | _, [] => True
  | i, o :: r => Step4 P Q l RO R Rc St T calls a w i o ∧ Steps4 P Q l RO R Rc St T calls a w (i + 1) r

theorem Steps4.get {l : List Oper} {RO R Rc : World → World → Prop} {St : Nat → World → Prop} {T : Nat → Nat → Value → World → Prop} {calls : List Nat} {a : Act} {w : World} {k : Nat} {r : List Oper} (h : Steps4 P Q l RO R Rc St T calls a w k r) {i : Nat} {o : Oper} (ho : r[i]? = some o) : Step4 P Q l RO R Rc St T calls a w (k + i) o := by
  induction r generalizing k i with
  | nil => simp at ho
  | cons x r ih =>
    cases i with
    | zero => simp at ho; subst ho; exact h.1
    | succ i =>
      simp at ho
      have := ih h.2 ho
      rwa [show k + 1 + i = k + (i + 1) by omega] at this

/-- THE RULE. -/
theorem wp_region_chain4 {id : Nat} {l : List Oper} {a : Act} {w : World} (hm : P.follows .mixedOrders = true) (hB : backB l 0 = true) (nd : (dsts l).Nodup) (hd : ∀ d ∈ dsts l, d < a.tmps.size)
    (RO R Rc : World → World → Prop) (Rdrew : RO w w.drew) (Rtrans : ∀ a b c, RO a b → RO b c → RO a c) (r1 : ∀ a b, R a b → RO a b) (r2 : ∀ a b, Rc a b → RO a b)
    (T : Nat → Nat → Value → World → Prop) (mono : ∀ k i v w1 w2, T k i v w1 → R w1 w2 → T k i v w2) (monoC : ∀ k i v w1 w2, T k i v w1 → Rc w1 w2 → T (k + 1) i v w2)
    (calls : List Nat) (cn : calls.Nodup) (cl : ∀ i ∈ calls, i < l.length) (cp : ∀ k i j, calls[k]? = some i → calls[k + 1]? = some j → Path l j i) (St : Nat → World → Prop) (st0 : St 0 w.drew)
    (steps : Steps4 P Q l RO R Rc St T calls a w 0 l)
    (done : ∀ a' w', Base l a a' → RO w w' → St calls.length w' → (∀ j, j < l.length → Held l (T calls.length) a' w' j) → Q .normal a' w') : (Code.region id l.toArray true).wp P Q a w := by
  refine wp_region_any hm ?_
  have hsz : l.toArray.size = l.length := by simp
  rw [hsz]
  let I : Array Bool → Act → World → Prop := fun listed a' w' => listed.size = l.length ∧ Base l a a' ∧ RO w w' ∧ Shut l listed ∧ (∀ j d, listed.getD j false = false → (l[j]?).bind (·.dst) = some d → a'.tmps.getD d undef = a.tmps.getD d undef) ∧
    ∃ k, (∀ j, listed.getD j false = true → Held l (T k) a' w' j) ∧ k ≤ calls.length ∧ St k w' ∧ ∀ m i, calls[m]? = some i → (listed.getD i false = true ↔ m < k)
  refine wpAny_inv I ?_ ?_ _ _ _ _ ?_ ?_
  · intro listed a' w' i ⟨h1, h2, h3, hS, hU, k, h4, hk, hst, hck⟩ hi
    obtain ⟨h5, o, ho, h6⟩ := mem_ready.1 hi
    have ho' : l[i]? = some o := by simpa using ho
    have hil : i < l.length := (List.getElem?_eq_some_iff.1 ho').1
    have hdep : ∀ j, depB o j = true → listed.getD j false = true := fun j hj => by
      unfold depB at hj
      rw [← Array.any_toList, List.any_eq_true] at hj
      obtain ⟨e, he', hb⟩ := hj
      have he : e ∈ o.after := by simpa using he'
      simp only [Bool.and_eq_true, beq_iff_eq] at hb
      rw [← hb.2]
      exact h6 e he hb.1
    have hni : listed.getD i false = false := by
      have hlt : i < listed.size := by omega
      simp [hlt] at h5 ⊢
      exact h5
    have hmk : ∀ m, calls[m]? = some i → m = k := fun m hm' => by
      have h7 : ¬ m < k := fun h => by rw [(hck m i hm').2 h] at hni; simp at hni
      rcases Nat.eq_zero_or_pos m with e | e
      · omega
      · obtain ⟨m', rfl⟩ : ∃ m', m = m' + 1 := ⟨m - 1, by omega⟩
        have hlt : m' < calls.length := by have := (List.getElem?_eq_some_iff.1 hm').1; omega
        have hp := cp m' _ i (List.getElem?_eq_getElem hlt) hm'
        have := hp.listed hS (fun o2 ho2 j hj => by rw [ho'] at ho2; simp at ho2; subst ho2; exact hdep j hj)
        have := (hck m' _ (List.getElem?_eq_getElem hlt)).1 this
        omega
    have hle : ∀ m j, calls[m]? = some j → Path l j i → k ≤ m := fun m j hmj hp => by
      rcases Nat.lt_or_ge m k with h | h
      · have hj := (hck m j hmj).2 h
        have := hp.listed hS (fun o2 ho2 x hx => hS j o2 ho2 hj x hx)
        rw [this] at hni
        simp at hni
      · exact h
    have hge : ∀ m j, calls[m]? = some j → Path l i j → m < k := fun m j hmj hp =>
      (hck m j hmj).1 (hp.listed hS (fun o2 ho2 x hx => by rw [ho'] at ho2; simp at ho2; subst ho2; exact hdep x hx))
    have hun : ∀ j d, (l[j]?).bind (·.dst) = some d → j = i ∨ Path l j i → a'.tmps.getD d undef = a.tmps.getD d undef := fun j d hjd hp => by
      rcases hp with rfl | hp
      · exact hU j d hni hjd
      · cases hj : listed.getD j false with
        | false => exact hU j d hj hjd
        | true =>
          have := hp.listed hS (fun o2 ho2 x hx => hS j o2 ho2 hj x hx)
          rw [this] at hni
          simp at hni
    have hst' := steps.get ho'
    rw [Nat.zero_add] at hst'
    obtain ⟨hw, hwp⟩ := hst' a' w' k h2 h3 hst hmk hle hge (fun j hj => h4 _ (hdep j hj)) hun
    unfold wpOp
    simp only [ho, hw, if_true]
    refine .inl (Oper.wp_mono ?_ hwp)
    rintro a'' w'' ⟨v, rfl, hT, hf, hfc, hsk⟩
    have hRO : RO w' w'' := by
      by_cases hic : i ∈ calls
      · exact r2 _ _ (hfc hic)
      · exact r1 _ _ (hf hic)
    have hold : ∀ j v, T k j v w' → T (if i ∈ calls then k + 1 else k) j v w'' := fun j v h => by
      by_cases hic : i ∈ calls
      · rw [if_pos hic]; exact monoC _ _ _ _ _ h (hfc hic)
      · rw [if_neg hic]; exact mono _ _ _ _ _ h (hf hic)
    refine ⟨by simp [h1], ⟨?_, ?_, fun s hs => ?_⟩, Rtrans _ _ _ h3 hRO, ?_, fun j d hj hjd => ?_, (if i ∈ calls then k + 1 else k), fun j hj d hdj => ?_, ?_⟩
    · cases hdst : o.dst with
      | none => exact h2.size
      | some d => simp [Act.put, h2.size]
    · cases hdst : o.dst with
      | none => exact h2.defers
      | some d => exact h2.defers
    · cases hdst : o.dst with
      | none => exact h2.old s hs
      | some d =>
        rw [put_getD (fun e => hs (by rw [← e]; exact mem_dsts ho' hdst))]
        exact h2.old s hs
    · intro i2 o2 ho2 hl2 j hj
      have grow : ∀ x, listed.getD x false = true → (listed.setIfInBounds i true).getD x false = true := fun x hx => by
        by_cases e : i = x
        · subst e
          have hlt : i < listed.size := by omega
          simp [hlt]
        · rw [getD_set_ne false e]; exact hx
      by_cases e : i = i2
      · subst e
        rw [ho'] at ho2
        simp at ho2
        subst ho2
        exact grow j (hdep j hj)
      · rw [getD_set_ne false e] at hl2
        exact grow j (hS i2 o2 ho2 hl2 j hj)
    · obtain ⟨oj, hoj, hdj'⟩ : ∃ oj, l[j]? = some oj ∧ oj.dst = some d := by
        cases hc : l[j]? with
        | none => rw [hc] at hjd; simp at hjd
        | some oj => rw [hc] at hjd; exact ⟨oj, rfl, by simpa using hjd⟩
      by_cases e : i = j
      · subst e
        have hlt : i < listed.size := by omega
        simp [hlt] at hj
      · rw [getD_set_ne false e] at hj
        have h7 := hU j d hj hjd
        cases hdst : o.dst with
        | none => exact h7
        | some d' =>
          rw [put_getD (fun e2 => e (dsts_inj nd ho' hoj (by rw [hdst, e2]) hdj'))]
          exact h7
    · obtain ⟨oj, hoj, hdj'⟩ : ∃ oj, l[j]? = some oj ∧ oj.dst = some d := by
        cases hc : l[j]? with
        | none => rw [hc] at hdj; simp at hdj
        | some oj => rw [hc] at hdj; exact ⟨oj, rfl, by simpa using hdj⟩
      by_cases e : i = j
      · subst e
        rw [ho'] at hoj
        simp at hoj
        subst hoj
        rw [hdj', put_self (by rw [h2.size]; exact hd d (mem_dsts ho' hdj'))]
        exact hT
      · rw [getD_set_ne false e] at hj
        have hold' := hold _ _ (h4 j hj d hdj)
        cases hdst : o.dst with
        | none => exact hold'
        | some d' =>
          rw [put_getD (fun e2 => e (dsts_inj nd ho' hoj (by rw [hdst, e2]) hdj'))]
          exact hold'
    · by_cases hic : i ∈ calls
      · obtain ⟨m, hm'⟩ := List.getElem?_of_mem hic
        have hmk' := hmk m hm'
        subst hmk'
        rw [if_pos hic] at hsk ⊢
        have hml : m < calls.length := (List.getElem?_eq_some_iff.1 hm').1
        refine ⟨by omega, hsk, fun m2 i2 hm2 => ?_⟩
        by_cases e : i = i2
        · subst e
          have hlt : i < listed.size := by omega
          have : m2 = m := (List.getElem?_inj (List.getElem?_eq_some_iff.1 hm2).1 cn).1 (hm2.trans hm'.symm)
          subst this
          simp [hlt]
        · rw [getD_set_ne false e, hck m2 i2 hm2]
          constructor
          · intro h; omega
          · intro h
            rcases Nat.lt_or_ge m2 m with h' | h'
            · exact h'
            · have : m2 = m := by omega
              subst this
              rw [hm2] at hm'
              simp at hm'
              exact absurd hm'.symm e
      · rw [if_neg hic] at hsk ⊢
        refine ⟨hk, hsk, fun m2 i2 hm2 => ?_⟩
        rw [getD_set_ne false (fun e => hic (by subst e; exact List.mem_of_getElem? hm2)), hck m2 i2 hm2]
  · intro listed a' w' ⟨h1, h2, h3, hS, hU, k, h4, hk, hst, hck⟩ hr
    have hall := all_listed hB h1 hr
    have hke : k = calls.length := by
      rcases Nat.lt_or_ge k calls.length with h | h
      · have := (hck k _ (List.getElem?_eq_getElem h)).1 (hall _ (cl _ (List.getElem_mem h)))
        omega
      · omega
    subst hke
    exact done a' w' h2 h3 hst (fun j hj => h4 j (hall j hj))
  · simp [lefts]
  · have none : ∀ j, ¬ (Array.replicate l.length false).getD j false = true := fun j hj => by
      simp only [Array.getD_eq_getD_getElem?, Array.getElem?_replicate] at hj
      split at hj <;> simp at hj
    exact ⟨by simp, ⟨rfl, rfl, fun _ _ => rfl⟩, Rdrew, fun i o _ hl => (none i hl).elim, fun _ _ _ _ => rfl, 0, fun j hj => (none j hj).elim, Nat.zero_le _, st0, fun m i _ => ⟨fun h => (none i h).elim, fun h => by omega⟩⟩
end

/-- THE RULE, over the kinds. -/
theorem wp_region_kinds4 {P : Program} {Q : Exit → Act → World → Prop} (S : Nat → Prop) {id : Nat} {l : List Oper} {a : Act} {w : World} (hm : P.follows .mixedOrders = true) (hB : backB l 0 = true) (nd : (dsts l).Nodup) (hd : ∀ d ∈ dsts l, d < a.tmps.size)
    (ks : List (Kd S)) (calls : List Nat) (cn : calls.Nodup) (cl : ∀ i ∈ calls, i < l.length) (cp : ∀ k i j, calls[k]? = some i → calls[k + 1]? = some j → Path l j i) (St : Nat → World → Prop) (st0 : St 0 w.drew)
    (steps : Steps4 P Q l (fun w w' => Fr S w w') (fun w w' => Fr (fun _ => False) w w') (fun w w' => Fr S w w') St (Tk ks) calls a w 0 l)
    (done : ∀ a' w', Base l a a' → Fr S w w' → St calls.length w' → (∀ j, j < l.length → Held l (Tk ks calls.length) a' w' j) → Q .normal a' w') : (Code.region id l.toArray true).wp P Q a w :=
  wp_region_chain4 hm hB nd hd _ _ _ (Fr.refl _ _).drew (fun _ _ _ h k => h.trans k (fun _ _ h => h)) (fun _ _ h => h.mono (fun _ _ h => h.elim)) (fun _ _ h => h) (Tk ks) (Tk.mono ks) (Tk.monoC ks) calls cn cl cp St st0 steps done

end Go.Proofs.Ytgodlfoidjeekaa

namespace Go.Proofs.Ytgodlfoidjeekaa
set_option linter.unusedVariables false
set_option linter.unusedSimpArgs false
open Go.RowKit Go.Lib
set_option linter.unusedVariables false
set_option linter.unusedSimpArgs false

attribute [local go_sem ↓] Go.wp_at_zero Go.wp_at_succ

set_option maxRecDepth 100000 in
set_option maxHeartbeats 4000000 in
theorem rputS_any (S : Nat → Prop) (W0 w : World) (v : Value) (base : List UInt8) (k n : Nat) (h : Nw S W0 w v base) (hk : k = 2 ∨ k = 4 ∨ k = 8) (hl : base.length ≤ 100000) (hn : n < 18446744073709551616) :
    Calls Try.prog 52 #[v, .int .u64 (n : Int), .int .i64 (k : Int)] w fun e w' => ∃ v', e = .returned v' ∧ Nw S W0 w' v' (base ++ be k n) := by
  obtain ⟨inf, hi0, hz0, hz1, hz2⟩ := info_parts Try.info5
  have H := hide h
  clear h
  go_enter Try.func52, Try.ntmps52
  go_wp2_with fail
  go_loopw [0, 7] (fun o y W => ∃ (r : Nat) (z : Int) (B : List UInt8), r ≤ k ∧ y = .int .i64 z ∧ z = (r : Int) - 1 ∧ Nw S W0 W o B ∧ B ++ be r n = base ++ be k n ∧ B.length + r = base.length + k) (fun _ y _ => (intOf y + 1).toNat)
  case atStart => exact ⟨k, _, base, Nat.le_refl _, rfl, rfl, unhide H, rfl, rfl⟩
  case round =>
    clear H
    obtain ⟨r, z, B, hr, rfl, hz, hN, hB, hBl⟩ := hrel
    have hrk : r ≤ 8 := by rcases hk with rfl | rfl | rfl <;> omega
    have hkk : k ≤ 8 := by rcases hk with rfl | rfl | rfl <;> omega
    rcases Nat.eq_zero_or_pos r with rfl | hpos
    · obtain rfl : z = -1 := by omega
      rw [show B = base ++ be k n by rw [← hB]; simp [be]] at hN
      have HN2 := hide hN
      clear hN hB hBl hr hrk hz
      go_wp2_with fail
      go_ret
      exact ⟨_, rfl, unhide HN2⟩
    · obtain ⟨r, rfl⟩ : ∃ r', r = r' + 1 := ⟨r - 1, by omega⟩
      obtain ⟨oa, oc, rfl⟩ := hN.shape
      have HN := hide hN
      have hBL : B.length ≤ 100100 := by omega
      have HX := hide (be_byte n r)
      have HBE : Hid (B ++ [UInt8.ofNat (n / 256 ^ r)] ++ be r n = base ++ be k n) := hide (by rw [← hB]; simp [be])
      have HBL : Hid (B.length + 1 + r = base.length + k) := hide (by omega)
      have HRK : Hid (r ≤ k) := hide (by omega)
      obtain ⟨x8, hx8⟩ : ∃ x8, x8 = UInt8.ofNat (n / 256 ^ r) := ⟨_, rfl⟩
      rw [← hx8] at HX HBE
      clear hN hB hBl hx8 hr
      rcases (show r = 0 ∨ r = 1 ∨ r = 2 ∨ r = 3 ∨ r = 4 ∨ r = 5 ∨ r = 6 ∨ r = 7 by omega) with rfl | rfl | rfl | rfl | rfl | rfl | rfl | rfl
      · obtain rfl : z = 0 := by omega
        clear hz hpos hrk
        go_wp2_with (refine wpList_app rfl (.tmp 14) (.tmp 21) 23 rfl 5 inf _ 1 1 Try.underlying23 hi0 hz0 hz1 hz2 rfl (by decide) _ B.length (bvs B) rfl _ rfl 1 (bvs [x8]) ?hown ?hx ?h1 ?hb ?h63 ?hK)
        case hown => exact ((unhide HN).alloc _).own
        case hx => exact sr1 _ _ _ (by rw [unhide HX]; simp <;> omega)
        case h1 => exact bvs_one _
        case hb => omega
        case h63 => simp only [maxLen]; omega
        case hK =>
          intro ao' cap' w' ho hg hpl
          have HNN : Hid (Nw S W0 w' (.slice ao' (B.length + 1) cap') (B ++ [x8])) := hide (((unhide HN).alloc _).grown (x := [x8]) ho hg (by rcases hpl with e | ⟨k, e, hk⟩; exact .inl e; exact .inr ⟨k, e, by simp at hk ⊢; omega⟩))
          clear ho hg hpl
          go_wp2_with fail
          go_roundw
          case rel => exact ⟨_, _, B ++ [x8], unhide HRK, rfl, by first | rfl | omega, by simpa using unhide HNN, unhide HBE, by simpa using unhide HBL⟩
          case measure => simp [intOf]
      · obtain rfl : z = 1 := by omega
        clear hz hpos hrk
        go_wp2_with (refine wpList_app rfl (.tmp 14) (.tmp 21) 23 rfl 5 inf _ 1 1 Try.underlying23 hi0 hz0 hz1 hz2 rfl (by decide) _ B.length (bvs B) rfl _ rfl 1 (bvs [x8]) ?hown ?hx ?h1 ?hb ?h63 ?hK)
        case hown => exact ((unhide HN).alloc _).own
        case hx => exact sr1 _ _ _ (by rw [unhide HX]; simp <;> omega)
        case h1 => exact bvs_one _
        case hb => omega
        case h63 => simp only [maxLen]; omega
        case hK =>
          intro ao' cap' w' ho hg hpl
          have HNN : Hid (Nw S W0 w' (.slice ao' (B.length + 1) cap') (B ++ [x8])) := hide (((unhide HN).alloc _).grown (x := [x8]) ho hg (by rcases hpl with e | ⟨k, e, hk⟩; exact .inl e; exact .inr ⟨k, e, by simp at hk ⊢; omega⟩))
          clear ho hg hpl
          go_wp2_with fail
          go_roundw
          case rel => exact ⟨_, _, B ++ [x8], unhide HRK, rfl, by first | rfl | omega, by simpa using unhide HNN, unhide HBE, by simpa using unhide HBL⟩
          case measure => simp [intOf]
      · obtain rfl : z = 2 := by omega
        clear hz hpos hrk
        go_wp2_with (refine wpList_app rfl (.tmp 14) (.tmp 21) 23 rfl 5 inf _ 1 1 Try.underlying23 hi0 hz0 hz1 hz2 rfl (by decide) _ B.length (bvs B) rfl _ rfl 1 (bvs [x8]) ?hown ?hx ?h1 ?hb ?h63 ?hK)
        case hown => exact ((unhide HN).alloc _).own
        case hx => exact sr1 _ _ _ (by rw [unhide HX]; simp <;> omega)
        case h1 => exact bvs_one _
        case hb => omega
        case h63 => simp only [maxLen]; omega
        case hK =>
          intro ao' cap' w' ho hg hpl
          have HNN : Hid (Nw S W0 w' (.slice ao' (B.length + 1) cap') (B ++ [x8])) := hide (((unhide HN).alloc _).grown (x := [x8]) ho hg (by rcases hpl with e | ⟨k, e, hk⟩; exact .inl e; exact .inr ⟨k, e, by simp at hk ⊢; omega⟩))
          clear ho hg hpl
          go_wp2_with fail
          go_roundw
          case rel => exact ⟨_, _, B ++ [x8], unhide HRK, rfl, by first | rfl | omega, by simpa using unhide HNN, unhide HBE, by simpa using unhide HBL⟩
          case measure => simp [intOf]
      · obtain rfl : z = 3 := by omega
        clear hz hpos hrk
        go_wp2_with (refine wpList_app rfl (.tmp 14) (.tmp 21) 23 rfl 5 inf _ 1 1 Try.underlying23 hi0 hz0 hz1 hz2 rfl (by decide) _ B.length (bvs B) rfl _ rfl 1 (bvs [x8]) ?hown ?hx ?h1 ?hb ?h63 ?hK)
        case hown => exact ((unhide HN).alloc _).own
        case hx => exact sr1 _ _ _ (by rw [unhide HX]; simp <;> omega)
        case h1 => exact bvs_one _
        case hb => omega
        case h63 => simp only [maxLen]; omega
        case hK =>
          intro ao' cap' w' ho hg hpl
          have HNN : Hid (Nw S W0 w' (.slice ao' (B.length + 1) cap') (B ++ [x8])) := hide (((unhide HN).alloc _).grown (x := [x8]) ho hg (by rcases hpl with e | ⟨k, e, hk⟩; exact .inl e; exact .inr ⟨k, e, by simp at hk ⊢; omega⟩))
          clear ho hg hpl
          go_wp2_with fail
          go_roundw
          case rel => exact ⟨_, _, B ++ [x8], unhide HRK, rfl, by first | rfl | omega, by simpa using unhide HNN, unhide HBE, by simpa using unhide HBL⟩
          case measure => simp [intOf]
      · obtain rfl : z = 4 := by omega
        clear hz hpos hrk
        go_wp2_with (refine wpList_app rfl (.tmp 14) (.tmp 21) 23 rfl 5 inf _ 1 1 Try.underlying23 hi0 hz0 hz1 hz2 rfl (by decide) _ B.length (bvs B) rfl _ rfl 1 (bvs [x8]) ?hown ?hx ?h1 ?hb ?h63 ?hK)
        case hown => exact ((unhide HN).alloc _).own
        case hx => exact sr1 _ _ _ (by rw [unhide HX]; simp <;> omega)
        case h1 => exact bvs_one _
        case hb => omega
        case h63 => simp only [maxLen]; omega
        case hK =>
          intro ao' cap' w' ho hg hpl
          have HNN : Hid (Nw S W0 w' (.slice ao' (B.length + 1) cap') (B ++ [x8])) := hide (((unhide HN).alloc _).grown (x := [x8]) ho hg (by rcases hpl with e | ⟨k, e, hk⟩; exact .inl e; exact .inr ⟨k, e, by simp at hk ⊢; omega⟩))
          clear ho hg hpl
          go_wp2_with fail
          go_roundw
          case rel => exact ⟨_, _, B ++ [x8], unhide HRK, rfl, by first | rfl | omega, by simpa using unhide HNN, unhide HBE, by simpa using unhide HBL⟩
          case measure => simp [intOf]
      · obtain rfl : z = 5 := by omega
        clear hz hpos hrk
        go_wp2_with (refine wpList_app rfl (.tmp 14) (.tmp 21) 23 rfl 5 inf _ 1 1 Try.underlying23 hi0 hz0 hz1 hz2 rfl (by decide) _ B.length (bvs B) rfl _ rfl 1 (bvs [x8]) ?hown ?hx ?h1 ?hb ?h63 ?hK)
        case hown => exact ((unhide HN).alloc _).own
        case hx => exact sr1 _ _ _ (by rw [unhide HX]; simp <;> omega)
        case h1 => exact bvs_one _
        case hb => omega
        case h63 => simp only [maxLen]; omega
        case hK =>
          intro ao' cap' w' ho hg hpl
          have HNN : Hid (Nw S W0 w' (.slice ao' (B.length + 1) cap') (B ++ [x8])) := hide (((unhide HN).alloc _).grown (x := [x8]) ho hg (by rcases hpl with e | ⟨k, e, hk⟩; exact .inl e; exact .inr ⟨k, e, by simp at hk ⊢; omega⟩))
          clear ho hg hpl
          go_wp2_with fail
          go_roundw
          case rel => exact ⟨_, _, B ++ [x8], unhide HRK, rfl, by first | rfl | omega, by simpa using unhide HNN, unhide HBE, by simpa using unhide HBL⟩
          case measure => simp [intOf]
      · obtain rfl : z = 6 := by omega
        clear hz hpos hrk
        go_wp2_with (refine wpList_app rfl (.tmp 14) (.tmp 21) 23 rfl 5 inf _ 1 1 Try.underlying23 hi0 hz0 hz1 hz2 rfl (by decide) _ B.length (bvs B) rfl _ rfl 1 (bvs [x8]) ?hown ?hx ?h1 ?hb ?h63 ?hK)
        case hown => exact ((unhide HN).alloc _).own
        case hx => exact sr1 _ _ _ (by rw [unhide HX]; simp <;> omega)
        case h1 => exact bvs_one _
        case hb => omega
        case h63 => simp only [maxLen]; omega
        case hK =>
          intro ao' cap' w' ho hg hpl
          have HNN : Hid (Nw S W0 w' (.slice ao' (B.length + 1) cap') (B ++ [x8])) := hide (((unhide HN).alloc _).grown (x := [x8]) ho hg (by rcases hpl with e | ⟨k, e, hk⟩; exact .inl e; exact .inr ⟨k, e, by simp at hk ⊢; omega⟩))
          clear ho hg hpl
          go_wp2_with fail
          go_roundw
          case rel => exact ⟨_, _, B ++ [x8], unhide HRK, rfl, by first | rfl | omega, by simpa using unhide HNN, unhide HBE, by simpa using unhide HBL⟩
          case measure => simp [intOf]
      · obtain rfl : z = 7 := by omega
        clear hz hpos hrk
        go_wp2_with (refine wpList_app rfl (.tmp 14) (.tmp 21) 23 rfl 5 inf _ 1 1 Try.underlying23 hi0 hz0 hz1 hz2 rfl (by decide) _ B.length (bvs B) rfl _ rfl 1 (bvs [x8]) ?hown ?hx ?h1 ?hb ?h63 ?hK)
        case hown => exact ((unhide HN).alloc _).own
        case hx => exact sr1 _ _ _ (by rw [unhide HX]; simp <;> omega)
        case h1 => exact bvs_one _
        case hb => omega
        case h63 => simp only [maxLen]; omega
        case hK =>
          intro ao' cap' w' ho hg hpl
          have HNN : Hid (Nw S W0 w' (.slice ao' (B.length + 1) cap') (B ++ [x8])) := hide (((unhide HN).alloc _).grown (x := [x8]) ho hg (by rcases hpl with e | ⟨k, e, hk⟩; exact .inl e; exact .inr ⟨k, e, by simp at hk ⊢; omega⟩))
          clear ho hg hpl
          go_wp2_with fail
          go_roundw
          case rel => exact ⟨_, _, B ++ [x8], unhide HRK, rfl, by first | rfl | omega, by simpa using unhide HNN, unhide HBE, by simpa using unhide HBL⟩
          case measure => simp [intOf]
end Go.Proofs.Ytgodlfoidjeekaa

namespace Go.Proofs.Ytgodlfoidjeekaa
set_option linter.unusedVariables false
set_option linter.unusedSimpArgs false
open Go.RowKit Go.Lib
set_option linter.unusedVariables false
set_option linter.unusedSimpArgs false

attribute [local go_sem ↓] Go.wp_at_zero Go.wp_at_succ

theorem app0 (w : World) {g n cap : Nat} {l : List UInt8} (hn : l.length = n) (ho : w.ownsRow 0 5 1 (.slice (some ⟨g, 0, none⟩) n cap) n (bvs l)) (k : Nat) (hk : n + k ≤ 100000) : ∃ v w', (Builtin.append_ #[23, 3] 23 #[.slice (some ⟨g, 0, none⟩) n cap, .int .i64 (k : Int)]).run Try.prog w = .ok v w' ∧ w'.ownsRow 0 5 1 v (n + k) (bvs (l ++ List.replicate k 0)) ∧ w.grownBy w' (some g) ∧ (v.ownBlock = some g ∨ v.ownBlock = some w.heap.size) := by
  obtain ⟨inf, hi0, hz0, hz1, hz2⟩ := info_parts Try.info5
  have hlen : (bvs (l ++ List.replicate k 0)).length = (n + k) * 1 := by rw [bvs_length]; simp; omega
  have hxl : (bvs l).length = n := by rw [bvs_length]; exact hn
  have hw : IntKind.i64.wrap (k : Int) = k := by rw [IntKind.wrap_i64]; omega
  rcases ho.2 with ⟨h, -⟩ | ⟨g', cap', cur, h, hbg, hg, hnc, hcm, hcs, htake⟩
  · simp at h
  · simp only [Value.slice.injEq, Option.some.injEq, Addr.mk.injEq, and_true, true_and] at h
    obtain ⟨rfl, rfl⟩ := h
    have hcs' : cur.size = cap := by simpa using hcs
    by_cases hroom : n + k ≤ cap
    · have hst := run_storeCells_at Try.prog g n 5 (bvs (List.replicate k 0)) 0 cur w hg (by rw [bvs_length]; simp; omega) (bvs_one _)
      simp only [Nat.add_zero, bvs_length, List.length_replicate] at hst
      refine ⟨.slice (some ⟨g, 0, none⟩) (n + k) cap, w.setRow g (cur.toList.take n ++ bvs (List.replicate k 0) ++ cur.toList.drop (n + k)).toArray, ?_, ⟨hlen, .inr ⟨g, cap, _, rfl, hbg, setRow_heap w g cur _ 5 _ hg, hroom, hcm, ?_, ?_⟩⟩, ⟨rfl, rfl, rfl, by simp, fun j _ hj => setRow_other w g j _ (fun e => hj (by simp [e]))⟩, .inl rfl⟩
      · by_cases hk0 : k = 0
        · subst hk0
          have e : w.setRow g (cur.toList.take n ++ bvs (List.replicate 0 0) ++ cur.toList.drop (n + 0)).toArray = w := by
            have : (cur.toList.take n ++ bvs (List.replicate 0 0) ++ cur.toList.drop (n + 0)).toArray = cur := by simp [bvs]
            rw [this]; exact setRow_self w g cur 5 (0, 0) hg
          rw [e]
          simp [Builtin.append_, run_underlying Try.underlying23, run_underlying Try.underlying3, sizeOf, typeInfo, hi0, hz1, asInt, asIntOf, IntKind.wrap_i64, hnc, storeCells]
        · have h48 : ¬ (281474976710656 < (k : Int) * (inf.bytes : Int)) := by rw [hz2]; omega
          have hneg : ¬ ((k : Int) < 0) := by omega
          simp [Builtin.append_, run_underlying Try.underlying23, run_underlying Try.underlying3, sizeOf, typeInfo, zeroValue, hi0, hz0, hz1, asInt, asIntOf, hw, hroom, hneg, h48, hk0, zeros_u8, Addr.add_lit, hst]
      · simp only [List.size_toArray, List.length_append, List.length_take, List.length_drop, Array.length_toList, bvs_length, List.length_replicate]
        omega
      · have ht' : cur.toList.take n = bvs l := by simpa using htake
        rw [ht', ← bvs_append, ← hlen]
        exact List.take_left
    · have hold : (Builtin.firstCells inf.size n (.slice (some ⟨g, 0, none⟩) n cap)).run Try.prog w.drew = .ok (bvs l).toArray w.drew := by
        have := run_loadCells_list (P := Try.prog) w.drew ⟨g, 0, none⟩ (bvs l) (fun j v hv => ho.cells (g := g) rfl j v hv)
        simp only [Builtin.firstCells, hz1, Nat.mul_one]
        rw [hxl] at this
        exact this
      have hr := run_append_grow_zeros (P := Try.prog) w 23 3 23 5 inf _ .i64 .i64 Try.underlying23 Try.underlying3 hi0 hz0 (some ⟨g, 0, none⟩) n cap (bvs l) hold k (by omega) (by rw [hz1]; decide) (by omega) (by omega) (by rw [hz2]; omega) (by rw [hz2]; exact growslice_fits (by omega) (by omega))
      rw [zeros_u8, zeros_u8] at hr
      have hge := grownCap_ge w (n + k) cap 5
      have hcm2 : grownCap w (n + k) cap 5 ≤ maxLen := grownCap_le_maxLen w (n + k) cap 5 (by simp only [maxLen]; omega)
      refine ⟨_, _, hr, ⟨hlen, .inr ⟨w.heap.size, _, _, rfl, Nat.zero_le _, heap_alloc_new w.drew _, hge, hcm2, ?_, ?_⟩⟩, ⟨rfl, rfl, rfl, by simp, fun j hj _ => Below.heap_alloc w.drew _ j hj⟩, .inr rfl⟩
      · simp only [Array.size_append, List.size_toArray, bvs_length, List.length_replicate]
        omega
      · simp only [Array.toList_append, List.append_assoc]
        rw [← List.append_assoc, ← bvs_append, ← hlen]
        exact List.take_left
theorem wpList_app0 {w : World} {ops : Array Oper} {rest : List Oper} {o : Oper} {a : Act} {Q : Exit → Act → World → Prop} (hgd : o.guard = none) (hty : o.type = 23) (s x : Operand) (ho : o.op = .call { callee := .builtin .append, args := #[s, x], argTypes := #[23, 3] }) {g n cap k : Nat} {l : List UInt8} (hn : l.length = n) (hs : a.eval s = .slice (some ⟨g, 0, none⟩) n cap) {kz : Int} (hx : a.eval x = .int .i64 kz) (hkz : kz = (k : Int)) (hown : w.ownsRow 0 5 1 (.slice (some ⟨g, 0, none⟩) n cap) n (bvs l)) (hk : n + k ≤ 100000)
    (h : ∀ ao c w', w'.ownsRow 0 5 1 (.slice ao (n + k) c) (n + k) (bvs (l ++ List.replicate k 0)) → w.grownBy w' (some g) → ((Value.slice ao (n + k) c).ownBlock = some g ∨ (Value.slice ao (n + k) c).ownBlock = some w.heap.size) → wpList Try.prog ops Q rest (a.put o.dst (.slice ao (n + k) c)) w') : wpList Try.prog ops Q (o :: rest) a w := by
  subst hkz
  refine wpList_plain hgd fun K hK => ?_
  obtain ⟨v', w', hr, h2, h3, h4⟩ := app0 w hn hown k hk
  unfold Oper.wp execOp
  simp only [ho, hty, resolve, invoke, builtin, Sem.run_bind, Sem.run_pure, Result.andThen_ok, List.map_toArray, List.map_cons, List.map_nil, hs, hx, hr]
  obtain ⟨ao, c, rfl⟩ := owns_shape h2
  exact hK _ _ (h ao c w' h2 h3 h4)

theorem wp_app0 {w : World} {o : Oper} {a : Act} {K : Act → World → Prop} {Q : Exit → Act → World → Prop} (hty : o.type = 23) (s x : Operand) (ho : o.op = .call { callee := .builtin .append, args := #[s, x], argTypes := #[23, 3] }) {g n cap k : Nat} {l : List UInt8} (hn : l.length = n) (hs : a.eval s = .slice (some ⟨g, 0, none⟩) n cap) {kz : Int} (hx : a.eval x = .int .i64 kz) (hkz : kz = (k : Int)) (hown : w.ownsRow 0 5 1 (.slice (some ⟨g, 0, none⟩) n cap) n (bvs l)) (hk : n + k ≤ 100000)
    (h : ∀ ao c w', w'.ownsRow 0 5 1 (.slice ao (n + k) c) (n + k) (bvs (l ++ List.replicate k 0)) → w.grownBy w' (some g) → ((Value.slice ao (n + k) c).ownBlock = some g ∨ (Value.slice ao (n + k) c).ownBlock = some w.heap.size) → K (a.put o.dst (.slice ao (n + k) c)) w') : o.wp Try.prog a w K Q := by
  subst hkz
  obtain ⟨v', w', hr, h2, h3, h4⟩ := app0 w hn hown k hk
  unfold Oper.wp execOp
  simp only [ho, hty, resolve, invoke, builtin, Sem.run_bind, Sem.run_pure, Result.andThen_ok, List.map_toArray, List.map_cons, List.map_nil, hs, hx, hr]
  obtain ⟨ao, c, rfl⟩ := owns_shape h2
  exact h ao c w' h2 h3 h4
theorem Nw.zeros {S : Nat → Prop} {W0 W W' : World} {g n cap k c : Nat} {ao : Option Addr} {l : List UInt8} (h : Nw S W0 W (.slice (some ⟨g, 0, none⟩) n cap) l) (hn : l.length = n) (o : W'.ownsRow 0 5 1 (.slice ao (n + k) c) (n + k) (bvs (l ++ List.replicate k 0))) (hg : W.grownBy W' (some g)) (hp : (Value.slice ao (n + k) c).ownBlock = some g ∨ (Value.slice ao (n + k) c).ownBlock = some W.heap.size) : Nw S W0 W' (.slice ao (n + k) c) (l ++ List.replicate k 0) := by
  refine ⟨by rw [List.length_append, hn, List.length_replicate]; exact o, h.fr.grown hg (fun j hj e => ?_), fun j e => ?_⟩
  · rcases h.new j e with h1 | h1
    · exact h1
    · omega
  · rcases hp with e2 | e2
    · rw [e2] at e; exact h.new j e
    · rw [e2] at e; simp at e; have := h.fr.size; right; omega
theorem Nw.block {S : Nat → Prop} {W0 W : World} {v : Value} {l : List UInt8} (h : Nw S W0 W v l) (hl : 0 < l.length) : ∃ g c, v = .slice (some ⟨g, 0, none⟩) l.length c := by
  obtain ⟨h1, h2 | ⟨g, cap, cur, h3, h4⟩⟩ := h.own
  · omega
  · exact ⟨g, cap, h3⟩
set_option maxRecDepth 100000 in
set_option maxHeartbeats 4000000 in
theorem filledS_any (S : Nat → Prop) (W0 w : World) (v : Value) (l : List UInt8) (h : Nw S W0 w v l) (h0 : 0 < l.length) (h1 : l.length ≤ 384) : Calls Try.prog 53 #[v] w fun e w' => ∃ v', e = .returned v' ∧ Nw S W0 w' v' (l ++ List.replicate (384 - l.length) 0) := by
  obtain ⟨g, c, rfl⟩ := h.block h0
  have H := hide h
  obtain ⟨n, hn⟩ : ∃ n, n = l.length := ⟨_, rfl⟩
  rw [← hn] at H h0 h1 ⊢
  have HN := hide hn
  clear h hn
  go_enter Try.func53, Try.ntmps53
  go_wp2_with (refine wpList_app0 rfl rfl (.tmp 3) (.tmp 6) rfl (n := n) (k := 384 - n) (unhide HN).symm rfl rfl (by omega) ?hown (by omega) ?hK)
  case hown => have := (unhide H).own; rw [← unhide HN] at this; exact this
  case hK =>
    intro ao' c' w' ho hg hp
    have e9 : n + (384 - n) = 384 := by omega
    have hz := Nw.zeros (n := n) (k := 384 - n) (ao := ao') (c := c') (unhide H) (unhide HN).symm (by rw [e9]; exact ho) hg (by rw [e9]; exact hp)
    rw [e9] at hz
    have HZ := hide hz
    clear hz e9
    clear ho hg hp
    go_wp2_with fail
    go_ret
    exact ⟨_, rfl, unhide HZ⟩
end Go.Proofs.Ytgodlfoidjeekaa

namespace Go.Proofs.Ytgodlfoidjeekaa
set_option linter.unusedVariables false
set_option linter.unusedSimpArgs false
open Go.RowKit Go.Lib
set_option linter.unusedVariables false
set_option linter.unusedSimpArgs false

attribute [local go_sem ↓] Go.wp_at_zero Go.wp_at_succ

/-- Where the bytes stand behind k steps. -/
def StC (S : Nat → Prop) (W : World) (cs : List (Option (Nat × List UInt8))) (k : Nat) (a : Act) (w : World) : Prop := ∀ s l, cs[k]? = some (some (s, l)) → Nw S W w (a.tmps.getD s undef) l
def offC (cs : List (Option (Nat × List UInt8))) (s : Nat) : Bool := match cs with
  | [] => true
  | some p :: r => (p.1 != s) && offC r s
  | none :: r => offC r s
theorem offC_get {cs : List (Option (Nat × List UInt8))} {s k : Nat} {p : Nat × List UInt8} (h : offC cs s = true) (e : cs[k]? = some (some p)) : s ≠ p.1 := by
  induction cs generalizing k with
  | nil => simp at e
  | cons c r ih =>
    cases k with
    | zero =>
      simp at e
      subst e
      simp [offC] at h
      exact fun e => h.1 e.symm
    | succ k =>
      simp at e
      cases c with
      | none => exact ih (by simpa [offC] using h) e
      | some q => simp [offC] at h; exact ih h.2 e
theorem StC.put {S : Nat → Prop} {W : World} {cs : List (Option (Nat × List UInt8))} {k s : Nat} {a : Act} {w w' : World} {v : Value} (h : StC S W cs k a w) (hs : offC cs s = true) (f : Fr (fun _ => False) w w') : StC S W cs k (a.put (some s) v) w' := by
  intro s' l e
  rw [put_getD (offC_get hs e)]
  exact (h s' l e).kept f
theorem StC.next {S : Nat → Prop} {W : World} {cs : List (Option (Nat × List UInt8))} {k s : Nat} {a : Act} {w : World} {v : Value} {l : List UInt8} (hc : cs[k]? = some (some (s, l))) (hs : s < a.tmps.size) (h : Nw S W w v l) : StC S W cs k (a.put (some s) v) w := by
  intro s' l' e
  rw [hc] at e
  simp at e
  obtain ⟨rfl, rfl⟩ := e
  rw [put_self hs]
  exact h
section
variable {o : Oper} {a : Act} {w W : World} {Q : Exit → Act → World → Prop} {S : Nat → Prop} {T : Nat → Value → World → Prop} {calls : List Nat} {cs : List (Option (Nat × List UInt8))} {i k s d : Nat} {l : List UInt8}
theorem Nw.self {S : Nat → Prop} {W w : World} {v : Value} {l : List UInt8} (h : Nw S W w v l) : Nw (fun b => v.ownBlock = some b) w w v l := ⟨h.own, Fr.refl _ _, fun _ e => .inl e⟩
/-- A move along the chain. -/
theorem ch_move {x : Operand} (hi : i ∈ calls) (ho : o.op = .move x ∨ o.op = .assign x) (hx : a.eval x = a.tmps.getD s undef) (hd : o.dst = some d) (hds : d < a.tmps.size) (hc : cs[k + 1]? = some (some (d, l))) (hn : Nw S W w (a.tmps.getD s undef) l) (hT : ∀ v w, T i v w) : o.wp Try.prog a w (LeftA (RY (fun b => S b ∨ W.heap.size ≤ b)) (StC S W cs) T calls i o k a w) Q :=
  la_valC (a.tmps.getD s undef) w hi (by rcases ho with ho | ho; exact x_move ho hx; exact x_assign ho hx) (hT _ _) (RY.of_fr (Fr.refl _ _)) (by rw [hd]; exact StC.next hc hds hn)
/-- The document's put along the chain. -/
theorem ch_put {n q : Nat} {x y : Operand} {t : Array TypeId} (hi : i ∈ calls) (ho : o.op = .call { callee := .value (.func 52), args := #[x, y, .const (.int .i64 (q : Int))], argTypes := t }) (hf : a.eval (.func 52) = .func (.func 52) #[] #[]) (hx : a.eval x = a.tmps.getD s undef) (hy : a.eval y = .int .u64 (n : Int)) (hz : a.eval (.const (.int .i64 (q : Int))) = .int .i64 (q : Int)) (hq : q = 2 ∨ q = 4 ∨ q = 8) (hl : l.length ≤ 100000) (hn64 : n < 18446744073709551616) (hd : o.dst = some d) (hds : d < a.tmps.size) (hc : cs[k + 1]? = some (some (d, l ++ be q n))) (hn : Nw S W w (a.tmps.getD s undef) l) (hT : ∀ v w, T i v w) : o.wp Try.prog a w (LeftA (RY (fun b => S b ∨ W.heap.size ≤ b)) (StC S W cs) T calls i o k a w) Q :=
  la_callC 52 _ hi (e_call3 ho hf hx hy hz (fun _ _ => by simp [go_sem])) ((rputS_any _ w w _ l q n hn.self hq hl hn64).mono (by
    rintro e w2 ⟨v2, rfl, hv2⟩
    exact ⟨_, rfl, hT _ _, RY.own hn.own hv2.fr hn.new, by rw [hd]; exact StC.next hc hds (hn.to hv2)⟩))
/-- filled along the chain. -/
theorem ch_filled {x : Operand} {t : Array TypeId} (hi : i ∈ calls) (ho : o.op = .call { callee := .value (.func 53), args := #[x], argTypes := t }) (hf : a.eval (.func 53) = .func (.func 53) #[] #[]) (hx : a.eval x = a.tmps.getD s undef) (h0 : 0 < l.length) (h1 : l.length ≤ 384) (hd : o.dst = some d) (hds : d < a.tmps.size) (hc : cs[k + 1]? = some (some (d, l ++ List.replicate (384 - l.length) 0))) (hn : Nw S W w (a.tmps.getD s undef) l) (hT : ∀ v w, T i v w) : o.wp Try.prog a w (LeftA (RY (fun b => S b ∨ W.heap.size ≤ b)) (StC S W cs) T calls i o k a w) Q :=
  la_callC 53 _ hi (e_call1 ho hf hx (fun _ _ => by simp [go_sem])) ((filledS_any _ w w _ l hn.self h0 h1).mono (by
    rintro e w2 ⟨v2, rfl, hv2⟩
    exact ⟨_, rfl, hT _ _, RY.own hn.own hv2.fr hn.new, by rw [hd]; exact StC.next hc hds (hn.to hv2)⟩))
/-- Zeros along the chain. -/
theorem ch_zeros {q : Nat} {x : Operand} (hi : i ∈ calls) (hty : o.type = 23) (ho : o.op = .call { callee := .builtin .append, args := #[x, .const (.int .i64 (q : Int))], argTypes := #[23, 3] }) (hx : a.eval x = a.tmps.getD s undef) (hz : a.eval (.const (.int .i64 (q : Int))) = .int .i64 (q : Int)) (h0 : 0 < l.length) (h1 : l.length + q ≤ 100000) (hd : o.dst = some d) (hds : d < a.tmps.size) (hc : cs[k + 1]? = some (some (d, l ++ List.replicate q 0))) (hn : Nw S W w (a.tmps.getD s undef) l) (hT : ∀ v w, T i v w) : o.wp Try.prog a w (LeftA (RY (fun b => S b ∨ W.heap.size ≤ b)) (StC S W cs) T calls i o k a w) Q := by
  obtain ⟨g, c, e⟩ := hn.block h0
  rw [e] at hn hx
  refine wp_app0 hty x _ ho rfl hx hz rfl hn.own h1 ?_
  intro ao c2 w2 h2 h3 h4
  have hz2 := hn.zeros rfl h2 h3 h4
  exact ⟨_, rfl, hT _ _, RY.own hn.own ((Fr.refl _ _).grown h3 (fun _ _ e => e)) hn.new, by rw [if_pos hi, hd]; exact StC.next hc hds hz2⟩
/-- Bytes appended along the chain. -/
theorem ch_app {x y : Operand} {u : Value} {bs : List UInt8} (hi : i ∈ calls) (hty : o.type = 23) (ho : o.op = .call { callee := .builtin .append, args := #[x, y], argTypes := #[23, 23] }) (hx : a.eval x = a.tmps.getD s undef) (hy : a.eval y = u) (hr : Rd w u bs) (h1 : l.length + bs.length ≤ 100000) (hd : o.dst = some d) (hds : d < a.tmps.size) (hc : cs[k + 1]? = some (some (d, l ++ bs))) (hn : Nw S W w (a.tmps.getD s undef) l) (hT : ∀ v w, T i v w) : o.wp Try.prog a w (LeftA (RY (fun b => S b ∨ W.heap.size ≤ b)) (StC S W cs) T calls i o k a w) Q := by
  obtain ⟨inf, hi0, hz0, hz1, hz2⟩ := info_parts Try.info5
  refine wp_app x y 23 ho 5 inf _ 1 1 Try.underlying23 (by rw [← hi0]) hz0 hz1 hz2 rfl (by decide) _ _ _ hx _ hy _ _ hn.own hr.sr (bvs_one _) (by omega) (by simp only [maxLen]; omega) ?_
  intro ao c2 w2 ho2 hg hpl
  exact ⟨_, rfl, hT _ _, RY.own hn.own ((Fr.refl _ _).grown hg (fun _ _ e => e)) hn.new, by rw [if_pos hi, hd]; exact StC.next hc hds (hn.grown ho2 hg hpl)⟩
/-- Four bytes, new. -/
theorem ch_build {b0 b1 b2 b3 : UInt8} {z0 z1 z2 z3 : Int} (h0 : z0 = ((b0.toNat : Nat) : Int)) (h1 : z1 = ((b1.toNat : Nat) : Int)) (h2 : z2 = ((b2.toNat : Nat) : Int)) (h3 : z3 = ((b3.toNat : Nat) : Int)) (hi : i ∈ calls) (ho : o.op = .buildSlice 23 4 #[(0, .const (.int .u8 z0)), (1, .const (.int .u8 z1)), (2, .const (.int .u8 z2)), (3, .const (.int .u8 z3))]) (hd : o.dst = some d) (hds : d < a.tmps.size) (hc : cs[k + 1]? = some (some (d, [b0, b1, b2, b3]))) (hR : RY (fun b => S b ∨ W.heap.size ≤ b) W w) (hF : Fr S W w) (hT : ∀ v w, T i v w) : o.wp Try.prog a w (LeftA (RY (fun b => S b ∨ W.heap.size ≤ b)) (StC S W cs) T calls i o k a w) Q := by
  subst h0 h1 h2 h3
  refine la_valC (.slice (some ⟨w.heap.size, 0, none⟩) 4 4) (w.alloc (.cells (bvs [b0, b1, b2, b3]).toArray 5)) hi (by simp [execOp, ho, go_sem, bvs, Act.eval]) (hT _ _) (RY.of_fr ((Fr.refl _ _).alloc _)) (by rw [hd]; exact StC.next hc hds ⟨⟨rfl, .inr ⟨_, _, _, rfl, Nat.zero_le _, heap_alloc_new w _, by simp, by decide, by simp [bvs], by simp [bvs]⟩⟩, hF.alloc _, fun k e => by simp [Value.ownBlock] at e; subst e; exact .inr hF.size⟩)
end
end Go.Proofs.Ytgodlfoidjeekaa

namespace Go.Proofs.Ytgodlfoidjeekaa
set_option linter.unusedVariables false
set_option linter.unusedSimpArgs false
open Go.RowKit Go.Lib
set_option linter.unusedVariables false
set_option linter.unusedSimpArgs false

attribute [local go_sem ↓] Go.wp_at_zero Go.wp_at_succ

set_option maxRecDepth 100000 in
set_option maxHeartbeats 4000000 in
theorem rputM_any (W0 w : World) (v : Value) (base : List UInt8) (k n : Nat) (h : Nm W0 w v base) (hb0 : 0 < base.length) (hk : k = 2 ∨ k = 4 ∨ k = 8) (hl : base.length ≤ 1000) (hn : n < 18446744073709551616) :
    Calls Try.prog 52 #[v, .int .u64 (n : Int), .int .i64 (k : Int)] w fun e w' => ∃ v', e = .returned v' ∧ Nb W0 w' v' (base ++ be k n) := by
  obtain ⟨inf, hi0, hz0, hz1, hz2⟩ := info_parts Try.info5
  have H := hide h
  have HB0 := hide hb0
  clear h hb0
  go_enter Try.func52, Try.ntmps52
  go_wp2_with fail
  go_loopw [0, 7] (fun o y W => ∃ (r : Nat) (z : Int) (B : List UInt8), r ≤ k ∧ y = .int .i64 z ∧ z = (r : Int) - 1 ∧ Nx base W0 W o B ∧ B ++ be r n = base ++ be k n ∧ B.length + r = base.length + k) (fun _ y _ => (intOf y + 1).toNat)
  case atStart => exact ⟨k, _, base, Nat.le_refl _, rfl, rfl, .inr ⟨unhide H, rfl⟩, rfl, rfl⟩
  case round =>
    clear H
    obtain ⟨r, z, B, hr, rfl, hz, hN, hB, hBl⟩ := hrel
    have hrk : r ≤ 8 := by rcases hk with rfl | rfl | rfl <;> omega
    have hkk : k ≤ 8 := by rcases hk with rfl | rfl | rfl <;> omega
    rcases Nat.eq_zero_or_pos r with rfl | hpos
    · obtain rfl : z = -1 := by omega
      rw [show B = base ++ be k n by rw [← hB]; simp [be]] at hN
      have HN2 := hide (hN.nb (by rw [List.length_append, be_length]; omega))
      clear hN hB hBl hr hrk hz
      go_wp2_with fail
      go_ret
      exact ⟨_, rfl, unhide HN2⟩
    · obtain ⟨r, rfl⟩ : ∃ r', r = r' + 1 := ⟨r - 1, by omega⟩
      obtain ⟨oa, oc, rfl⟩ := hN.shape
      have HN := hide hN
      have hBL : B.length ≤ 1100 := by omega
      have HX := hide (be_byte n r)
      have HBE : Hid (B ++ [UInt8.ofNat (n / 256 ^ r)] ++ be r n = base ++ be k n) := hide (by rw [← hB]; simp [be])
      have HBL : Hid (B.length + 1 + r = base.length + k) := hide (by omega)
      have HRK : Hid (r ≤ k) := hide (by omega)
      obtain ⟨x8, hx8⟩ : ∃ x8, x8 = UInt8.ofNat (n / 256 ^ r) := ⟨_, rfl⟩
      rw [← hx8] at HX HBE
      clear hN hB hBl hx8 hr
      rcases (show r = 0 ∨ r = 1 ∨ r = 2 ∨ r = 3 ∨ r = 4 ∨ r = 5 ∨ r = 6 ∨ r = 7 by omega) with rfl | rfl | rfl | rfl | rfl | rfl | rfl | rfl
      · obtain rfl : z = 0 := by omega
        clear hz hpos hrk
        rcases unhide HN with HNb | ⟨HNm, hBl⟩
        · have HN := hide HNb
          clear HNb
          go_wp2_with (refine wpList_app rfl (.tmp 14) (.tmp 21) 23 rfl 5 inf _ 1 1 Try.underlying23 hi0 hz0 hz1 hz2 rfl (by decide) _ B.length (bvs B) rfl _ rfl 1 (bvs [x8]) ?hown ?hx ?h1 ?hb ?h63 ?hK)
          case hown => exact ((unhide HN).alloc _).own
          case hx => exact sr1 _ _ _ (by rw [unhide HX]; simp <;> omega)
          case h1 => exact bvs_one _
          case hb => omega
          case h63 => simp only [maxLen]; omega
          case hK =>
            intro ao' cap' w' ho hg hpl
            have HNN : Hid (Nb W0 w' (.slice ao' (B.length + 1) cap') (B ++ [x8])) := hide (((unhide HN).alloc _).grown (x := [x8]) ho hg (by rcases hpl with e | ⟨k, e, hk⟩; exact .inl e; exact .inr ⟨k, e, by simp at hk ⊢; omega⟩))
            clear ho hg hpl
            go_wp2_with fail
            go_roundw
            case rel => exact ⟨_, _, B ++ [x8], unhide HRK, rfl, by first | rfl | omega, .inl (by simpa using unhide HNN), unhide HBE, by simpa using unhide HBL⟩
            case measure => simp [intOf]
        · have HL00 := unhide HB0
          rw [← hBl] at HL00
          have HM := hide HNm
          clear HNm hBl HN
          go_wp2_with (refine wpList_appM (W0 := W0) (l := B) (xs := [x8]) (m := 1) rfl rfl (.tmp 14) (.tmp 21) rfl rfl rfl ?hm9 HL00 ?hs9 rfl (by decide) ?hk9 ?hK9)
          case hm9 => exact (unhide HM).kept ((Fr.refl _ _).alloc _)
          case hs9 => exact sr1 _ _ _ (by rw [unhide HX]; simp <;> omega)
          case hk9 => omega
          case hK9 =>
            intro ao' cap' w' hN9 hf9 hp9
            have HNN : Hid (Nb W0 w' (.slice ao' (B.length + 1) cap') (B ++ [x8])) := hide hN9
            clear hN9 hf9 hp9
            go_wp2_with fail
            go_roundw
            case rel => exact ⟨_, _, B ++ [x8], unhide HRK, rfl, by first | rfl | omega, .inl (by simpa using unhide HNN), unhide HBE, by simpa using unhide HBL⟩
            case measure => simp [intOf]
      · obtain rfl : z = 1 := by omega
        clear hz hpos hrk
        rcases unhide HN with HNb | ⟨HNm, hBl⟩
        · have HN := hide HNb
          clear HNb
          go_wp2_with (refine wpList_app rfl (.tmp 14) (.tmp 21) 23 rfl 5 inf _ 1 1 Try.underlying23 hi0 hz0 hz1 hz2 rfl (by decide) _ B.length (bvs B) rfl _ rfl 1 (bvs [x8]) ?hown ?hx ?h1 ?hb ?h63 ?hK)
          case hown => exact ((unhide HN).alloc _).own
          case hx => exact sr1 _ _ _ (by rw [unhide HX]; simp <;> omega)
          case h1 => exact bvs_one _
          case hb => omega
          case h63 => simp only [maxLen]; omega
          case hK =>
            intro ao' cap' w' ho hg hpl
            have HNN : Hid (Nb W0 w' (.slice ao' (B.length + 1) cap') (B ++ [x8])) := hide (((unhide HN).alloc _).grown (x := [x8]) ho hg (by rcases hpl with e | ⟨k, e, hk⟩; exact .inl e; exact .inr ⟨k, e, by simp at hk ⊢; omega⟩))
            clear ho hg hpl
            go_wp2_with fail
            go_roundw
            case rel => exact ⟨_, _, B ++ [x8], unhide HRK, rfl, by first | rfl | omega, .inl (by simpa using unhide HNN), unhide HBE, by simpa using unhide HBL⟩
            case measure => simp [intOf]
        · have HL00 := unhide HB0
          rw [← hBl] at HL00
          have HM := hide HNm
          clear HNm hBl HN
          go_wp2_with (refine wpList_appM (W0 := W0) (l := B) (xs := [x8]) (m := 1) rfl rfl (.tmp 14) (.tmp 21) rfl rfl rfl ?hm9 HL00 ?hs9 rfl (by decide) ?hk9 ?hK9)
          case hm9 => exact (unhide HM).kept ((Fr.refl _ _).alloc _)
          case hs9 => exact sr1 _ _ _ (by rw [unhide HX]; simp <;> omega)
          case hk9 => omega
          case hK9 =>
            intro ao' cap' w' hN9 hf9 hp9
            have HNN : Hid (Nb W0 w' (.slice ao' (B.length + 1) cap') (B ++ [x8])) := hide hN9
            clear hN9 hf9 hp9
            go_wp2_with fail
            go_roundw
            case rel => exact ⟨_, _, B ++ [x8], unhide HRK, rfl, by first | rfl | omega, .inl (by simpa using unhide HNN), unhide HBE, by simpa using unhide HBL⟩
            case measure => simp [intOf]
      · obtain rfl : z = 2 := by omega
        clear hz hpos hrk
        rcases unhide HN with HNb | ⟨HNm, hBl⟩
        · have HN := hide HNb
          clear HNb
          go_wp2_with (refine wpList_app rfl (.tmp 14) (.tmp 21) 23 rfl 5 inf _ 1 1 Try.underlying23 hi0 hz0 hz1 hz2 rfl (by decide) _ B.length (bvs B) rfl _ rfl 1 (bvs [x8]) ?hown ?hx ?h1 ?hb ?h63 ?hK)
          case hown => exact ((unhide HN).alloc _).own
          case hx => exact sr1 _ _ _ (by rw [unhide HX]; simp <;> omega)
          case h1 => exact bvs_one _
          case hb => omega
          case h63 => simp only [maxLen]; omega
          case hK =>
            intro ao' cap' w' ho hg hpl
            have HNN : Hid (Nb W0 w' (.slice ao' (B.length + 1) cap') (B ++ [x8])) := hide (((unhide HN).alloc _).grown (x := [x8]) ho hg (by rcases hpl with e | ⟨k, e, hk⟩; exact .inl e; exact .inr ⟨k, e, by simp at hk ⊢; omega⟩))
            clear ho hg hpl
            go_wp2_with fail
            go_roundw
            case rel => exact ⟨_, _, B ++ [x8], unhide HRK, rfl, by first | rfl | omega, .inl (by simpa using unhide HNN), unhide HBE, by simpa using unhide HBL⟩
            case measure => simp [intOf]
        · have HL00 := unhide HB0
          rw [← hBl] at HL00
          have HM := hide HNm
          clear HNm hBl HN
          go_wp2_with (refine wpList_appM (W0 := W0) (l := B) (xs := [x8]) (m := 1) rfl rfl (.tmp 14) (.tmp 21) rfl rfl rfl ?hm9 HL00 ?hs9 rfl (by decide) ?hk9 ?hK9)
          case hm9 => exact (unhide HM).kept ((Fr.refl _ _).alloc _)
          case hs9 => exact sr1 _ _ _ (by rw [unhide HX]; simp <;> omega)
          case hk9 => omega
          case hK9 =>
            intro ao' cap' w' hN9 hf9 hp9
            have HNN : Hid (Nb W0 w' (.slice ao' (B.length + 1) cap') (B ++ [x8])) := hide hN9
            clear hN9 hf9 hp9
            go_wp2_with fail
            go_roundw
            case rel => exact ⟨_, _, B ++ [x8], unhide HRK, rfl, by first | rfl | omega, .inl (by simpa using unhide HNN), unhide HBE, by simpa using unhide HBL⟩
            case measure => simp [intOf]
      · obtain rfl : z = 3 := by omega
        clear hz hpos hrk
        rcases unhide HN with HNb | ⟨HNm, hBl⟩
        · have HN := hide HNb
          clear HNb
          go_wp2_with (refine wpList_app rfl (.tmp 14) (.tmp 21) 23 rfl 5 inf _ 1 1 Try.underlying23 hi0 hz0 hz1 hz2 rfl (by decide) _ B.length (bvs B) rfl _ rfl 1 (bvs [x8]) ?hown ?hx ?h1 ?hb ?h63 ?hK)
          case hown => exact ((unhide HN).alloc _).own
          case hx => exact sr1 _ _ _ (by rw [unhide HX]; simp <;> omega)
          case h1 => exact bvs_one _
          case hb => omega
          case h63 => simp only [maxLen]; omega
          case hK =>
            intro ao' cap' w' ho hg hpl
            have HNN : Hid (Nb W0 w' (.slice ao' (B.length + 1) cap') (B ++ [x8])) := hide (((unhide HN).alloc _).grown (x := [x8]) ho hg (by rcases hpl with e | ⟨k, e, hk⟩; exact .inl e; exact .inr ⟨k, e, by simp at hk ⊢; omega⟩))
            clear ho hg hpl
            go_wp2_with fail
            go_roundw
            case rel => exact ⟨_, _, B ++ [x8], unhide HRK, rfl, by first | rfl | omega, .inl (by simpa using unhide HNN), unhide HBE, by simpa using unhide HBL⟩
            case measure => simp [intOf]
        · have HL00 := unhide HB0
          rw [← hBl] at HL00
          have HM := hide HNm
          clear HNm hBl HN
          go_wp2_with (refine wpList_appM (W0 := W0) (l := B) (xs := [x8]) (m := 1) rfl rfl (.tmp 14) (.tmp 21) rfl rfl rfl ?hm9 HL00 ?hs9 rfl (by decide) ?hk9 ?hK9)
          case hm9 => exact (unhide HM).kept ((Fr.refl _ _).alloc _)
          case hs9 => exact sr1 _ _ _ (by rw [unhide HX]; simp <;> omega)
          case hk9 => omega
          case hK9 =>
            intro ao' cap' w' hN9 hf9 hp9
            have HNN : Hid (Nb W0 w' (.slice ao' (B.length + 1) cap') (B ++ [x8])) := hide hN9
            clear hN9 hf9 hp9
            go_wp2_with fail
            go_roundw
            case rel => exact ⟨_, _, B ++ [x8], unhide HRK, rfl, by first | rfl | omega, .inl (by simpa using unhide HNN), unhide HBE, by simpa using unhide HBL⟩
            case measure => simp [intOf]
      · obtain rfl : z = 4 := by omega
        clear hz hpos hrk
        rcases unhide HN with HNb | ⟨HNm, hBl⟩
        · have HN := hide HNb
          clear HNb
          go_wp2_with (refine wpList_app rfl (.tmp 14) (.tmp 21) 23 rfl 5 inf _ 1 1 Try.underlying23 hi0 hz0 hz1 hz2 rfl (by decide) _ B.length (bvs B) rfl _ rfl 1 (bvs [x8]) ?hown ?hx ?h1 ?hb ?h63 ?hK)
          case hown => exact ((unhide HN).alloc _).own
          case hx => exact sr1 _ _ _ (by rw [unhide HX]; simp <;> omega)
          case h1 => exact bvs_one _
          case hb => omega
          case h63 => simp only [maxLen]; omega
          case hK =>
            intro ao' cap' w' ho hg hpl
            have HNN : Hid (Nb W0 w' (.slice ao' (B.length + 1) cap') (B ++ [x8])) := hide (((unhide HN).alloc _).grown (x := [x8]) ho hg (by rcases hpl with e | ⟨k, e, hk⟩; exact .inl e; exact .inr ⟨k, e, by simp at hk ⊢; omega⟩))
            clear ho hg hpl
            go_wp2_with fail
            go_roundw
            case rel => exact ⟨_, _, B ++ [x8], unhide HRK, rfl, by first | rfl | omega, .inl (by simpa using unhide HNN), unhide HBE, by simpa using unhide HBL⟩
            case measure => simp [intOf]
        · have HL00 := unhide HB0
          rw [← hBl] at HL00
          have HM := hide HNm
          clear HNm hBl HN
          go_wp2_with (refine wpList_appM (W0 := W0) (l := B) (xs := [x8]) (m := 1) rfl rfl (.tmp 14) (.tmp 21) rfl rfl rfl ?hm9 HL00 ?hs9 rfl (by decide) ?hk9 ?hK9)
          case hm9 => exact (unhide HM).kept ((Fr.refl _ _).alloc _)
          case hs9 => exact sr1 _ _ _ (by rw [unhide HX]; simp <;> omega)
          case hk9 => omega
          case hK9 =>
            intro ao' cap' w' hN9 hf9 hp9
            have HNN : Hid (Nb W0 w' (.slice ao' (B.length + 1) cap') (B ++ [x8])) := hide hN9
            clear hN9 hf9 hp9
            go_wp2_with fail
            go_roundw
            case rel => exact ⟨_, _, B ++ [x8], unhide HRK, rfl, by first | rfl | omega, .inl (by simpa using unhide HNN), unhide HBE, by simpa using unhide HBL⟩
            case measure => simp [intOf]
      · obtain rfl : z = 5 := by omega
        clear hz hpos hrk
        rcases unhide HN with HNb | ⟨HNm, hBl⟩
        · have HN := hide HNb
          clear HNb
          go_wp2_with (refine wpList_app rfl (.tmp 14) (.tmp 21) 23 rfl 5 inf _ 1 1 Try.underlying23 hi0 hz0 hz1 hz2 rfl (by decide) _ B.length (bvs B) rfl _ rfl 1 (bvs [x8]) ?hown ?hx ?h1 ?hb ?h63 ?hK)
          case hown => exact ((unhide HN).alloc _).own
          case hx => exact sr1 _ _ _ (by rw [unhide HX]; simp <;> omega)
          case h1 => exact bvs_one _
          case hb => omega
          case h63 => simp only [maxLen]; omega
          case hK =>
            intro ao' cap' w' ho hg hpl
            have HNN : Hid (Nb W0 w' (.slice ao' (B.length + 1) cap') (B ++ [x8])) := hide (((unhide HN).alloc _).grown (x := [x8]) ho hg (by rcases hpl with e | ⟨k, e, hk⟩; exact .inl e; exact .inr ⟨k, e, by simp at hk ⊢; omega⟩))
            clear ho hg hpl
            go_wp2_with fail
            go_roundw
            case rel => exact ⟨_, _, B ++ [x8], unhide HRK, rfl, by first | rfl | omega, .inl (by simpa using unhide HNN), unhide HBE, by simpa using unhide HBL⟩
            case measure => simp [intOf]
        · have HL00 := unhide HB0
          rw [← hBl] at HL00
          have HM := hide HNm
          clear HNm hBl HN
          go_wp2_with (refine wpList_appM (W0 := W0) (l := B) (xs := [x8]) (m := 1) rfl rfl (.tmp 14) (.tmp 21) rfl rfl rfl ?hm9 HL00 ?hs9 rfl (by decide) ?hk9 ?hK9)
          case hm9 => exact (unhide HM).kept ((Fr.refl _ _).alloc _)
          case hs9 => exact sr1 _ _ _ (by rw [unhide HX]; simp <;> omega)
          case hk9 => omega
          case hK9 =>
            intro ao' cap' w' hN9 hf9 hp9
            have HNN : Hid (Nb W0 w' (.slice ao' (B.length + 1) cap') (B ++ [x8])) := hide hN9
            clear hN9 hf9 hp9
            go_wp2_with fail
            go_roundw
            case rel => exact ⟨_, _, B ++ [x8], unhide HRK, rfl, by first | rfl | omega, .inl (by simpa using unhide HNN), unhide HBE, by simpa using unhide HBL⟩
            case measure => simp [intOf]
      · obtain rfl : z = 6 := by omega
        clear hz hpos hrk
        rcases unhide HN with HNb | ⟨HNm, hBl⟩
        · have HN := hide HNb
          clear HNb
          go_wp2_with (refine wpList_app rfl (.tmp 14) (.tmp 21) 23 rfl 5 inf _ 1 1 Try.underlying23 hi0 hz0 hz1 hz2 rfl (by decide) _ B.length (bvs B) rfl _ rfl 1 (bvs [x8]) ?hown ?hx ?h1 ?hb ?h63 ?hK)
          case hown => exact ((unhide HN).alloc _).own
          case hx => exact sr1 _ _ _ (by rw [unhide HX]; simp <;> omega)
          case h1 => exact bvs_one _
          case hb => omega
          case h63 => simp only [maxLen]; omega
          case hK =>
            intro ao' cap' w' ho hg hpl
            have HNN : Hid (Nb W0 w' (.slice ao' (B.length + 1) cap') (B ++ [x8])) := hide (((unhide HN).alloc _).grown (x := [x8]) ho hg (by rcases hpl with e | ⟨k, e, hk⟩; exact .inl e; exact .inr ⟨k, e, by simp at hk ⊢; omega⟩))
            clear ho hg hpl
            go_wp2_with fail
            go_roundw
            case rel => exact ⟨_, _, B ++ [x8], unhide HRK, rfl, by first | rfl | omega, .inl (by simpa using unhide HNN), unhide HBE, by simpa using unhide HBL⟩
            case measure => simp [intOf]
        · have HL00 := unhide HB0
          rw [← hBl] at HL00
          have HM := hide HNm
          clear HNm hBl HN
          go_wp2_with (refine wpList_appM (W0 := W0) (l := B) (xs := [x8]) (m := 1) rfl rfl (.tmp 14) (.tmp 21) rfl rfl rfl ?hm9 HL00 ?hs9 rfl (by decide) ?hk9 ?hK9)
          case hm9 => exact (unhide HM).kept ((Fr.refl _ _).alloc _)
          case hs9 => exact sr1 _ _ _ (by rw [unhide HX]; simp <;> omega)
          case hk9 => omega
          case hK9 =>
            intro ao' cap' w' hN9 hf9 hp9
            have HNN : Hid (Nb W0 w' (.slice ao' (B.length + 1) cap') (B ++ [x8])) := hide hN9
            clear hN9 hf9 hp9
            go_wp2_with fail
            go_roundw
            case rel => exact ⟨_, _, B ++ [x8], unhide HRK, rfl, by first | rfl | omega, .inl (by simpa using unhide HNN), unhide HBE, by simpa using unhide HBL⟩
            case measure => simp [intOf]
      · obtain rfl : z = 7 := by omega
        clear hz hpos hrk
        rcases unhide HN with HNb | ⟨HNm, hBl⟩
        · have HN := hide HNb
          clear HNb
          go_wp2_with (refine wpList_app rfl (.tmp 14) (.tmp 21) 23 rfl 5 inf _ 1 1 Try.underlying23 hi0 hz0 hz1 hz2 rfl (by decide) _ B.length (bvs B) rfl _ rfl 1 (bvs [x8]) ?hown ?hx ?h1 ?hb ?h63 ?hK)
          case hown => exact ((unhide HN).alloc _).own
          case hx => exact sr1 _ _ _ (by rw [unhide HX]; simp <;> omega)
          case h1 => exact bvs_one _
          case hb => omega
          case h63 => simp only [maxLen]; omega
          case hK =>
            intro ao' cap' w' ho hg hpl
            have HNN : Hid (Nb W0 w' (.slice ao' (B.length + 1) cap') (B ++ [x8])) := hide (((unhide HN).alloc _).grown (x := [x8]) ho hg (by rcases hpl with e | ⟨k, e, hk⟩; exact .inl e; exact .inr ⟨k, e, by simp at hk ⊢; omega⟩))
            clear ho hg hpl
            go_wp2_with fail
            go_roundw
            case rel => exact ⟨_, _, B ++ [x8], unhide HRK, rfl, by first | rfl | omega, .inl (by simpa using unhide HNN), unhide HBE, by simpa using unhide HBL⟩
            case measure => simp [intOf]
        · have HL00 := unhide HB0
          rw [← hBl] at HL00
          have HM := hide HNm
          clear HNm hBl HN
          go_wp2_with (refine wpList_appM (W0 := W0) (l := B) (xs := [x8]) (m := 1) rfl rfl (.tmp 14) (.tmp 21) rfl rfl rfl ?hm9 HL00 ?hs9 rfl (by decide) ?hk9 ?hK9)
          case hm9 => exact (unhide HM).kept ((Fr.refl _ _).alloc _)
          case hs9 => exact sr1 _ _ _ (by rw [unhide HX]; simp <;> omega)
          case hk9 => omega
          case hK9 =>
            intro ao' cap' w' hN9 hf9 hp9
            have HNN : Hid (Nb W0 w' (.slice ao' (B.length + 1) cap') (B ++ [x8])) := hide hN9
            clear hN9 hf9 hp9
            go_wp2_with fail
            go_roundw
            case rel => exact ⟨_, _, B ++ [x8], unhide HRK, rfl, by first | rfl | omega, .inl (by simpa using unhide HNN), unhide HBE, by simpa using unhide HBL⟩
            case measure => simp [intOf]
end Go.Proofs.Ytgodlfoidjeekaa

namespace Go.Proofs.Ytgodlfoidjeekaa
set_option linter.unusedVariables false
set_option linter.unusedSimpArgs false
open Go.RowKit Go.Lib
set_option linter.unusedVariables false
set_option linter.unusedSimpArgs false

attribute [local go_sem ↓] Go.wp_at_zero Go.wp_at_succ

theorem Fr.marked (w : World) (o1 o2 : Obj) : Fr (fun k => k = w.heap.size) (w.alloc o1) (w.alloc o2) :=
  ⟨rfl, rfl, rfl, by simp, fun j hj hne => by
    have h1 : j < w.heap.size := by simp at hj; omega
    rw [Below.heap_alloc w _ j h1, Below.heap_alloc w _ j h1]⟩
/-- The world is as it was at the region's start, but for what is new. -/
def RF (W a b : World) : Prop := Fr (fun _ => False) W a → Fr (fun _ => False) W b
theorem RF.of_fr {W a b : World} (f : Fr (fun _ => False) a b) : RF W a b := fun h => h.trans f (fun _ _ e => e)
theorem RF.trans {W a b c : World} (h : RF W a b) (k : RF W b c) : RF W a c := fun f => k (h f)
/-- Behind so many of the five. -/
structure StK (W : World) (C l3 l4 : List UInt8) (s1 s2 s3 s4 : Nat) (k : Nat) (a : Act) (w : World) : Prop where
  k0 : k = 0 → Fr (fun _ => False) W w
  k1 : k = 1 → ∃ w0, Fr (fun _ => False) W w0 ∧ w = w0.alloc (.cells (bvs C).toArray 5) ∧ a.tmps.getD s1 undef = .slice (some ⟨w0.heap.size, 0, none⟩) C.length C.length
  k2 : k = 2 → Nm W w (a.tmps.getD s2 undef) C
  k3 : k = 3 → Nb W w (a.tmps.getD s3 undef) l3
  k4 : k = 4 → Nb W w (a.tmps.getD s4 undef) l4
  k5 : k = 5 → Nb W w (a.tmps.getD 4 undef) l4
theorem StK.put {W : World} {C l3 l4 : List UInt8} {s1 s2 s3 s4 k s : Nat} {a : Act} {w : World} {v : Value} (h : StK W C l3 l4 s1 s2 s3 s4 k a w) (h1 : s ≠ s1) (h2 : s ≠ s2) (h3 : s ≠ s3) (h4 : s ≠ s4) (h5 : s ≠ 4) : StK W C l3 l4 s1 s2 s3 s4 k (a.put (some s) v) w :=
  ⟨h.k0, fun e => by rw [put_getD h1]; exact h.k1 e, fun e => by rw [put_getD h2]; exact h.k2 e, fun e => by rw [put_getD h3]; exact h.k3 e, fun e => by rw [put_getD h4]; exact h.k4 e, fun e => by rw [put_getD h5]; exact h.k5 e⟩
theorem ld22c : ∀ W a u, World.cell? W a = some u → (Instr.loadAt 22 (.pointer (some a))).run Try.prog W = .ok u W := ld22
section
variable {ρ : Operand → Value} {o : Oper} {w : World} {x : Operand} {b : Nat}
theorem x_conv2 {s t : TypeId} {v u : Value} {w2 : World} (ho : o.op = .convert s t x) (hx : ρ x = v) (hc : (convert s t v).run Try.prog w = .ok u w2) : (execOp ρ o).run Try.prog w = .ok (.value u) w2 := by
  subst hx; simp [execOp, ho, hc, go_sem]
theorem x_bs4 {b0 b1 b2 b3 : UInt8} {z0 z1 z2 z3 : Int} (h0 : z0 = ((b0.toNat : Nat) : Int)) (h1 : z1 = ((b1.toNat : Nat) : Int)) (h2 : z2 = ((b2.toNat : Nat) : Int)) (h3 : z3 = ((b3.toNat : Nat) : Int)) {y0 y1 y2 y3 : Operand} (ho : o.op = .buildSlice 23 4 #[(0, y0), (1, y1), (2, y2), (3, y3)]) (g0 : ρ y0 = .int .u8 z0) (g1 : ρ y1 = .int .u8 z1) (g2 : ρ y2 = .int .u8 z2) (g3 : ρ y3 = .int .u8 z3) : (execOp ρ o).run Try.prog w = .ok (.value (.slice (some ⟨w.heap.size, 0, none⟩) 4 4)) (w.alloc (.cells (bvs [b0, b1, b2, b3]).toArray 5)) := by
  subst h0 h1 h2 h3
  simp [execOp, ho, g0, g1, g2, g3, go_sem, bvs]
theorem x_f27_0 (ho : o.op = .fieldAddr 27 x 0) (hx : ρ x = .pointer (some ⟨b, 0, none⟩)) : (execOp ρ o).run Try.prog w = .ok (.value (.pointer (some ⟨b, 0, none⟩))) w := by
  simp [execOp, ho, hx, go_sem]
theorem x_f27_1 (ho : o.op = .fieldAddr 27 x 1) (hx : ρ x = .pointer (some ⟨b, 0, none⟩)) : (execOp ρ o).run Try.prog w = .ok (.value (.pointer (some ⟨b, 1, none⟩))) w := by
  simp [execOp, ho, hx, go_sem]
theorem x_f27_2 (ho : o.op = .fieldAddr 27 x 2) (hx : ρ x = .pointer (some ⟨b, 0, none⟩)) : (execOp ρ o).run Try.prog w = .ok (.value (.pointer (some ⟨b, 2, none⟩))) w := by
  simp [execOp, ho, hx, go_sem]
theorem x_f27_3 (ho : o.op = .fieldAddr 27 x 3) (hx : ρ x = .pointer (some ⟨b, 0, none⟩)) : (execOp ρ o).run Try.prog w = .ok (.value (.pointer (some ⟨b, 3, none⟩))) w := by
  simp [execOp, ho, hx, go_sem]
theorem x_f27_4 (ho : o.op = .fieldAddr 27 x 4) (hx : ρ x = .pointer (some ⟨b, 0, none⟩)) : (execOp ρ o).run Try.prog w = .ok (.value (.pointer (some ⟨b, 4, none⟩))) w := by
  simp [execOp, ho, hx, go_sem]
theorem x_f27_5 (ho : o.op = .fieldAddr 27 x 5) (hx : ρ x = .pointer (some ⟨b, 0, none⟩)) : (execOp ρ o).run Try.prog w = .ok (.value (.pointer (some ⟨b, 5, none⟩))) w := by
  simp [execOp, ho, hx, go_sem]
theorem x_f25_0 (ho : o.op = .fieldAddr 25 x 0) (hx : ρ x = .pointer (some ⟨b, 0, none⟩)) : (execOp ρ o).run Try.prog w = .ok (.value (.pointer (some ⟨b, 0, none⟩))) w := by
  simp [execOp, ho, hx, go_sem]
theorem x_f25_1 (ho : o.op = .fieldAddr 25 x 1) (hx : ρ x = .pointer (some ⟨b, 0, none⟩)) : (execOp ρ o).run Try.prog w = .ok (.value (.pointer (some ⟨b, 1, none⟩))) w := by
  simp [execOp, ho, hx, go_sem]
theorem x_f25_2 (ho : o.op = .fieldAddr 25 x 2) (hx : ρ x = .pointer (some ⟨b, 0, none⟩)) : (execOp ρ o).run Try.prog w = .ok (.value (.pointer (some ⟨b, 2, none⟩))) w := by
  simp [execOp, ho, hx, go_sem]
theorem x_f25_3 (ho : o.op = .fieldAddr 25 x 3) (hx : ρ x = .pointer (some ⟨b, 0, none⟩)) : (execOp ρ o).run Try.prog w = .ok (.value (.pointer (some ⟨b, 3, none⟩))) w := by
  simp [execOp, ho, hx, go_sem]
theorem x_f25_4 (ho : o.op = .fieldAddr 25 x 4) (hx : ρ x = .pointer (some ⟨b, 0, none⟩)) : (execOp ρ o).run Try.prog w = .ok (.value (.pointer (some ⟨b, 4, none⟩))) w := by
  simp [execOp, ho, hx, go_sem]
theorem x_f25_5 (ho : o.op = .fieldAddr 25 x 5) (hx : ρ x = .pointer (some ⟨b, 0, none⟩)) : (execOp ρ o).run Try.prog w = .ok (.value (.pointer (some ⟨b, 5, none⟩))) w := by
  simp [execOp, ho, hx, go_sem]
theorem x_f25_6 (ho : o.op = .fieldAddr 25 x 6) (hx : ρ x = .pointer (some ⟨b, 0, none⟩)) : (execOp ρ o).run Try.prog w = .ok (.value (.pointer (some ⟨b, 6, none⟩))) w := by
  simp [execOp, ho, hx, go_sem]
end
set_option maxHeartbeats 8000000 in
set_option maxRecDepth 100000 in
theorem gr14 {W : World} {p n0 n1 : Nat} {x2 x3 x4 x5 : Value} {u0 u2 u3 u4 u5 u6 u7 u8 u9 u10 u11 u12 u13 u14 u15 u16 u17 u18 u19 u20 u21 u22 u23 u24 u25 u26 u27 u28 u29 u30 u31 u32 u33 u34 u35 u36 u37 u38 u39 u40 u41 u42 u43 u44 u45 u46 u47 u48 u49 u50 u51 u52 u53 u54 u55 u56 u57 u58 u59 u60 u61 u62 u63 u64 u65 : Value} {Q : Exit → Act → World → Prop} (hp : W.heap[p]? = some (.cells #[.int .u64 (n0 : Int), .int .u64 (n1 : Int), x2, x3, x4, x5] 27 (0, 0))) (hn0 : n0 < 18446744073709551616) (hn1 : n1 < 18446744073709551616)
    (hQ : ∀ (y43 y44 y45 y46 y47 y48 y49 y50 : Value) (v' : Value) (W' : World), Nb W W' v' ([74, 83, 85, 80] ++ be 8 n0 ++ be 8 n1) → Q .normal ⟨#[u0, .pointer (some ⟨p, 0, none⟩), u2, u3, v', u5, u6, u7, u8, u9, u10, u11, u12, u13, u14, u15, u16, u17, u18, u19, u20, u21, u22, u23, u24, u25, u26, u27, u28, u29, u30, u31, u32, u33, u34, u35, u36, u37, u38, u39, u40, u41, u42, y43, y44, y45, y46, y47, y48, y49, y50, u51, u52, u53, u54, u55, u56, u57, u58, u59, u60, u61, u62, u63, u64, u65], []⟩ W') : (rgF Try.f14 3).wp Try.prog Q ⟨#[u0, .pointer (some ⟨p, 0, none⟩), u2, u3, u4, u5, u6, u7, u8, u9, u10, u11, u12, u13, u14, u15, u16, u17, u18, u19, u20, u21, u22, u23, u24, u25, u26, u27, u28, u29, u30, u31, u32, u33, u34, u35, u36, u37, u38, u39, u40, u41, u42, u43, u44, u45, u46, u47, u48, u49, u50, u51, u52, u53, u54, u55, u56, u57, u58, u59, u60, u61, u62, u63, u64, u65], []⟩ W := by
  have HQ := hide hQ
  clear hQ
  have lp := lt_of_heap hp
  conv => arg 2; whnf
  refine wp_nm ?_
  intro a0 hA
  have s1 : a0.tmps.getD 1 undef = .pointer (some ⟨p, 0, none⟩) := by rw [hA]; rfl
  have hsz : a0.tmps.size = 66 := by rw [hA]; rfl
  have hdf : a0.defers = [] := by rw [hA]
  refine wp_region_chainA (by kernel_rfl) (by kernel_rfl) (by decide +kernel) (by rw [hsz]; decide +kernel) (fun w w' => RF W w w') (fun _ => (Fr.refl _ _).drew) (fun _ _ _ => RF.trans) (Tw [KV.any, KV.any, KV.eq (.pointer (some ⟨p, 0, none⟩)), KV.eq (.int .u64 (n0 : Int)), KV.any, KV.eq (.pointer (some ⟨p, 1, none⟩)), KV.eq (.int .u64 (n1 : Int)), KV.any, KV.any]) (Tw.mono _) [0, 1, 4, 7, 8] (by decide) (by decide) (fun k i j h1 h2 => ?cp) (StK W [74, 83, 85, 80] ([74, 83, 85, 80] ++ be 8 n0) ([74, 83, 85, 80] ++ be 8 n0 ++ be 8 n1) 43 44 47 50) ?st0 ?steps ?done
  case cp =>
    match k, h1, h2 with
    | 0, h1, h2 => simp at h1 h2; subst h1; subst h2; exact .one rfl (by kernel_rfl)
    | 1, h1, h2 => simp at h1 h2; subst h1; subst h2; exact .one rfl (by kernel_rfl)
    | 2, h1, h2 => simp at h1 h2; subst h1; subst h2; exact .one rfl (by kernel_rfl)
    | 3, h1, h2 => simp at h1 h2; subst h1; subst h2; exact .one rfl (by kernel_rfl)
    | 4, h1, h2 => simp at h2
    | k + 5, h1, h2 => simp at h2
  case st0 => exact ⟨fun _ => (Fr.refl _ _).drew, fun e => by omega, fun e => by omega, fun e => by omega, fun e => by omega, fun e => by omega⟩
  case steps =>
    have HC0 : ∀ w', RF W W w' → w'.cell? ⟨p, 0, none⟩ = some (.int .u64 (n0 : Int)) := fun w' f => by rw [(f (Fr.refl _ _)).cell lp id, cell_of_heap hp]; rfl
    have HC1 : ∀ w', RF W W w' → w'.cell? ⟨p, 1, none⟩ = some (.int .u64 (n1 : Int)) := fun w' f => by rw [(f (Fr.refl _ _)).cell lp id, cell_of_heap hp]; rfl
    refine ⟨?_, ?_⟩
    · intro a' w' k hb hR hst hck hle hd
      obtain rfl : 0 = k := hck 0 rfl
      exact .inl ⟨wanted_none rfl, la_valC _ _ (by decide) (x_bs4 (b0 := 74) (b1 := 83) (b2 := 85) (b3 := 80) rfl rfl rfl rfl rfl rfl rfl rfl rfl) trivial (RF.of_fr ((Fr.refl _ _).alloc _)) ⟨fun e => by omega, fun _ => ⟨w', hst.k0 rfl, rfl, by rw [put_self (by rw [hb.size, hsz]; decide)]; rfl⟩, fun e => by omega, fun e => by omega, fun e => by omega, fun e => by omega⟩⟩
    refine ⟨?_, ?_⟩
    · intro a' w' k hb hR hst hck hle hd
      obtain rfl : 1 = k := hck 1 rfl
      obtain ⟨w0, f0, rfl, e1⟩ := hst.k1 rfl
      have kc := run_convert_bytes_const (P := Try.prog) w0 23 5 (bvs [74, 83, 85, 80]).toArray 4 4 Try.underlying23 Try.underlying5
      exact .inl ⟨wanted_none rfl, la_valC _ _ (by decide) (x_conv2 rfl e1 kc) trivial (fun _ => f0.alloc _) ⟨fun e => by omega, fun e => by omega, fun _ => by rw [put_self (by rw [hb.size, hsz]; decide)]; exact nm_const W w0 f0 [74, 83, 85, 80] _ _ rfl (by simp), fun e => by omega, fun e => by omega, fun e => by omega⟩⟩
    refine ⟨?_, ?_⟩
    · intro a' w' k hb hR hst hck hle hd
      exact .inl ⟨wanted_none rfl, la_val _ _ (by decide) (x_f27_0 rfl ((hb.old 1 (by decide +kernel)).trans s1)) rfl (RF.of_fr (Fr.refl _ _)) (hst.put (by decide) (by decide) (by decide) (by decide) (by decide))⟩
    refine ⟨?_, ?_⟩
    · intro a' w' k hb hR hst hck hle hd
      exact .inl ⟨wanted_none rfl, la_val _ _ (by decide) (x_load1 ld22 rfl (hd 2 (by kernel_rfl) 45 rfl) (HC0 w' hR)) rfl (RF.of_fr (Fr.refl _ _)) (hst.put (by decide) (by decide) (by decide) (by decide) (by decide))⟩
    refine ⟨?_, ?_⟩
    · intro a' w' k hb hR hst hck hle hd
      obtain rfl : 2 = k := hck 2 rfl
      have hn := hst.k2 rfl
      have e1 : a'.tmps.getD 46 undef = .int .u64 (n0 : Int) := hd 3 (by kernel_rfl) 46 rfl
      refine .inl ⟨wanted_none rfl, la_callC 52 _ (by decide) (e_call3 rfl rfl rfl e1 rfl (fun _ _ => by simp [go_sem])) ((rputM_any W w' _ [74, 83, 85, 80] 8 n0 hn (by simp) (.inr (.inr rfl)) (by simp) hn0).mono ?_)⟩
      rintro e w2 ⟨v2, rfl, hv2⟩
      exact ⟨_, rfl, trivial, fun _ => hv2.fr, ⟨fun e => by omega, fun e => by omega, fun e => by omega, fun _ => by rw [put_self (by rw [hb.size, hsz]; decide)]; exact hv2, fun e => by omega, fun e => by omega⟩⟩
    refine ⟨?_, ?_⟩
    · intro a' w' k hb hR hst hck hle hd
      exact .inl ⟨wanted_none rfl, la_val _ _ (by decide) (x_f27_1 rfl ((hb.old 1 (by decide +kernel)).trans s1)) rfl (RF.of_fr (Fr.refl _ _)) (hst.put (by decide) (by decide) (by decide) (by decide) (by decide))⟩
    refine ⟨?_, ?_⟩
    · intro a' w' k hb hR hst hck hle hd
      exact .inl ⟨wanted_none rfl, la_val _ _ (by decide) (x_load1 ld22 rfl (hd 5 (by kernel_rfl) 48 rfl) (HC1 w' hR)) rfl (RF.of_fr (Fr.refl _ _)) (hst.put (by decide) (by decide) (by decide) (by decide) (by decide))⟩
    refine ⟨?_, ?_⟩
    · intro a' w' k hb hR hst hck hle hd
      obtain rfl : 3 = k := hck 3 rfl
      have hn := hst.k3 rfl
      have e1 : a'.tmps.getD 49 undef = .int .u64 (n1 : Int) := hd 6 (by kernel_rfl) 49 rfl
      refine .inl ⟨wanted_none rfl, la_callC 52 _ (by decide) (e_call3 rfl rfl rfl e1 rfl (fun _ _ => by simp [go_sem])) ((rputS_any _ w' w' _ ([74, 83, 85, 80] ++ be 8 n0) 8 n1 hn.nw (.inr (.inr rfl)) (by simp [be_length]) hn1).mono ?_)⟩
      rintro e w2 ⟨v2, rfl, hv2⟩
      exact ⟨_, rfl, trivial, fun _ => (hn.then hv2).fr, ⟨fun e => by omega, fun e => by omega, fun e => by omega, fun e => by omega, fun _ => by rw [put_self (by rw [hb.size, hsz]; decide)]; exact hn.then hv2, fun e => by omega⟩⟩
    refine ⟨?_, ?_⟩
    · intro a' w' k hb hR hst hck hle hd
      obtain rfl : 4 = k := hck 4 rfl
      have hn := hst.k4 rfl
      exact .inl ⟨wanted_none rfl, la_valC _ _ (by decide) (x_assign rfl rfl) trivial (RF.of_fr (Fr.refl _ _)) ⟨fun e => by omega, fun e => by omega, fun e => by omega, fun e => by omega, fun e => by omega, fun _ => by rw [put_self (by rw [hb.size, hsz]; decide)]; exact hn⟩⟩
    exact trivial
  case done =>
    intro a' w' hb hR hst hall
    have hn := hst.k5 rfl
    have hfr := frame_eq (a := a') (vs := [u0, .pointer (some ⟨p, 0, none⟩), u2, u3, a'.tmps.getD 4 undef, u5, u6, u7, u8, u9, u10, u11, u12, u13, u14, u15, u16, u17, u18, u19, u20, u21, u22, u23, u24, u25, u26, u27, u28, u29, u30, u31, u32, u33, u34, u35, u36, u37, u38, u39, u40, u41, u42, a'.tmps.getD 43 undef, a'.tmps.getD 44 undef, a'.tmps.getD 45 undef, a'.tmps.getD 46 undef, a'.tmps.getD 47 undef, a'.tmps.getD 48 undef, a'.tmps.getD 49 undef, a'.tmps.getD 50 undef, u51, u52, u53, u54, u55, u56, u57, u58, u59, u60, u61, u62, u63, u64, u65]) (by rw [hb.size, hsz]; rfl) (by rw [hb.defers, hdf]) ⟨(hb.old 0 (by decide +kernel)).trans (by rw [hA]; rfl), (hb.old 1 (by decide +kernel)).trans (by rw [hA]; rfl), (hb.old 2 (by decide +kernel)).trans (by rw [hA]; rfl), (hb.old 3 (by decide +kernel)).trans (by rw [hA]; rfl), rfl, (hb.old 5 (by decide +kernel)).trans (by rw [hA]; rfl), (hb.old 6 (by decide +kernel)).trans (by rw [hA]; rfl), (hb.old 7 (by decide +kernel)).trans (by rw [hA]; rfl), (hb.old 8 (by decide +kernel)).trans (by rw [hA]; rfl), (hb.old 9 (by decide +kernel)).trans (by rw [hA]; rfl), (hb.old 10 (by decide +kernel)).trans (by rw [hA]; rfl), (hb.old 11 (by decide +kernel)).trans (by rw [hA]; rfl), (hb.old 12 (by decide +kernel)).trans (by rw [hA]; rfl), (hb.old 13 (by decide +kernel)).trans (by rw [hA]; rfl), (hb.old 14 (by decide +kernel)).trans (by rw [hA]; rfl), (hb.old 15 (by decide +kernel)).trans (by rw [hA]; rfl), (hb.old 16 (by decide +kernel)).trans (by rw [hA]; rfl), (hb.old 17 (by decide +kernel)).trans (by rw [hA]; rfl), (hb.old 18 (by decide +kernel)).trans (by rw [hA]; rfl), (hb.old 19 (by decide +kernel)).trans (by rw [hA]; rfl), (hb.old 20 (by decide +kernel)).trans (by rw [hA]; rfl), (hb.old 21 (by decide +kernel)).trans (by rw [hA]; rfl), (hb.old 22 (by decide +kernel)).trans (by rw [hA]; rfl), (hb.old 23 (by decide +kernel)).trans (by rw [hA]; rfl), (hb.old 24 (by decide +kernel)).trans (by rw [hA]; rfl), (hb.old 25 (by decide +kernel)).trans (by rw [hA]; rfl), (hb.old 26 (by decide +kernel)).trans (by rw [hA]; rfl), (hb.old 27 (by decide +kernel)).trans (by rw [hA]; rfl), (hb.old 28 (by decide +kernel)).trans (by rw [hA]; rfl), (hb.old 29 (by decide +kernel)).trans (by rw [hA]; rfl), (hb.old 30 (by decide +kernel)).trans (by rw [hA]; rfl), (hb.old 31 (by decide +kernel)).trans (by rw [hA]; rfl), (hb.old 32 (by decide +kernel)).trans (by rw [hA]; rfl), (hb.old 33 (by decide +kernel)).trans (by rw [hA]; rfl), (hb.old 34 (by decide +kernel)).trans (by rw [hA]; rfl), (hb.old 35 (by decide +kernel)).trans (by rw [hA]; rfl), (hb.old 36 (by decide +kernel)).trans (by rw [hA]; rfl), (hb.old 37 (by decide +kernel)).trans (by rw [hA]; rfl), (hb.old 38 (by decide +kernel)).trans (by rw [hA]; rfl), (hb.old 39 (by decide +kernel)).trans (by rw [hA]; rfl), (hb.old 40 (by decide +kernel)).trans (by rw [hA]; rfl), (hb.old 41 (by decide +kernel)).trans (by rw [hA]; rfl), (hb.old 42 (by decide +kernel)).trans (by rw [hA]; rfl), rfl, rfl, rfl, rfl, rfl, rfl, rfl, rfl, (hb.old 51 (by decide +kernel)).trans (by rw [hA]; rfl), (hb.old 52 (by decide +kernel)).trans (by rw [hA]; rfl), (hb.old 53 (by decide +kernel)).trans (by rw [hA]; rfl), (hb.old 54 (by decide +kernel)).trans (by rw [hA]; rfl), (hb.old 55 (by decide +kernel)).trans (by rw [hA]; rfl), (hb.old 56 (by decide +kernel)).trans (by rw [hA]; rfl), (hb.old 57 (by decide +kernel)).trans (by rw [hA]; rfl), (hb.old 58 (by decide +kernel)).trans (by rw [hA]; rfl), (hb.old 59 (by decide +kernel)).trans (by rw [hA]; rfl), (hb.old 60 (by decide +kernel)).trans (by rw [hA]; rfl), (hb.old 61 (by decide +kernel)).trans (by rw [hA]; rfl), (hb.old 62 (by decide +kernel)).trans (by rw [hA]; rfl), (hb.old 63 (by decide +kernel)).trans (by rw [hA]; rfl), (hb.old 64 (by decide +kernel)).trans (by rw [hA]; rfl), (hb.old 65 (by decide +kernel)).trans (by rw [hA]; rfl), trivial⟩
    rw [hfr]
    exact unhide HQ _ _ _ _ _ _ _ _ _ w' hn
set_option maxHeartbeats 8000000 in
set_option maxRecDepth 100000 in
theorem gr12 {W : World} {p n0 n1 : Nat} {x2 x3 x4 x5 x6 : Value} {u0 u2 u3 u4 u5 u6 u7 u8 u9 u10 u11 u12 u13 u14 u15 u16 u17 u18 u19 u20 u21 u22 u23 u24 u25 u26 u27 u28 u29 u30 u31 u32 u33 u34 u35 u36 u37 u38 u39 u40 u41 u42 u43 u44 u45 u46 u47 u48 u49 u50 u51 u52 u53 u54 u55 u56 u57 u58 u59 u60 u61 u62 u63 u64 u65 u66 u67 u68 u69 u70 u71 u72 u73 u74 u75 u76 u77 u78 u79 u80 u81 u82 u83 u84 u85 u86 u87 u88 u89 u90 u91 u92 u93 u94 u95 u96 u97 u98 u99 u100 u101 u102 u103 u104 u105 u106 u107 : Value} {Q : Exit → Act → World → Prop} (hp : W.heap[p]? = some (.cells #[.int .u64 (n0 : Int), .int .u64 (n1 : Int), x2, x3, x4, x5, x6] 25 (0, 0))) (hn0 : n0 < 18446744073709551616) (hn1 : n1 < 18446744073709551616)
    (hQ : ∀ (y72 y73 y74 y75 y76 y77 y78 y79 : Value) (v' : Value) (W' : World), Nb W W' v' ([74, 76, 79, 71] ++ be 8 n0 ++ be 8 n1) → Q .normal ⟨#[u0, .pointer (some ⟨p, 0, none⟩), u2, u3, v', u5, u6, u7, u8, u9, u10, u11, u12, u13, u14, u15, u16, u17, u18, u19, u20, u21, u22, u23, u24, u25, u26, u27, u28, u29, u30, u31, u32, u33, u34, u35, u36, u37, u38, u39, u40, u41, u42, u43, u44, u45, u46, u47, u48, u49, u50, u51, u52, u53, u54, u55, u56, u57, u58, u59, u60, u61, u62, u63, u64, u65, u66, u67, u68, u69, u70, u71, y72, y73, y74, y75, y76, y77, y78, y79, u80, u81, u82, u83, u84, u85, u86, u87, u88, u89, u90, u91, u92, u93, u94, u95, u96, u97, u98, u99, u100, u101, u102, u103, u104, u105, u106, u107], []⟩ W') : (rgF Try.f12 3).wp Try.prog Q ⟨#[u0, .pointer (some ⟨p, 0, none⟩), u2, u3, u4, u5, u6, u7, u8, u9, u10, u11, u12, u13, u14, u15, u16, u17, u18, u19, u20, u21, u22, u23, u24, u25, u26, u27, u28, u29, u30, u31, u32, u33, u34, u35, u36, u37, u38, u39, u40, u41, u42, u43, u44, u45, u46, u47, u48, u49, u50, u51, u52, u53, u54, u55, u56, u57, u58, u59, u60, u61, u62, u63, u64, u65, u66, u67, u68, u69, u70, u71, u72, u73, u74, u75, u76, u77, u78, u79, u80, u81, u82, u83, u84, u85, u86, u87, u88, u89, u90, u91, u92, u93, u94, u95, u96, u97, u98, u99, u100, u101, u102, u103, u104, u105, u106, u107], []⟩ W := by
  have HQ := hide hQ
  clear hQ
  have lp := lt_of_heap hp
  conv => arg 2; whnf
  refine wp_nm ?_
  intro a0 hA
  have s1 : a0.tmps.getD 1 undef = .pointer (some ⟨p, 0, none⟩) := by rw [hA]; rfl
  have hsz : a0.tmps.size = 108 := by rw [hA]; rfl
  have hdf : a0.defers = [] := by rw [hA]
  refine wp_region_chainA (by kernel_rfl) (by kernel_rfl) (by decide +kernel) (by rw [hsz]; decide +kernel) (fun w w' => RF W w w') (fun _ => (Fr.refl _ _).drew) (fun _ _ _ => RF.trans) (Tw [KV.any, KV.any, KV.eq (.pointer (some ⟨p, 0, none⟩)), KV.eq (.int .u64 (n0 : Int)), KV.any, KV.eq (.pointer (some ⟨p, 1, none⟩)), KV.eq (.int .u64 (n1 : Int)), KV.any, KV.any]) (Tw.mono _) [0, 1, 4, 7, 8] (by decide) (by decide) (fun k i j h1 h2 => ?cp) (StK W [74, 76, 79, 71] ([74, 76, 79, 71] ++ be 8 n0) ([74, 76, 79, 71] ++ be 8 n0 ++ be 8 n1) 72 73 76 79) ?st0 ?steps ?done
  case cp =>
    match k, h1, h2 with
    | 0, h1, h2 => simp at h1 h2; subst h1; subst h2; exact .one rfl (by kernel_rfl)
    | 1, h1, h2 => simp at h1 h2; subst h1; subst h2; exact .one rfl (by kernel_rfl)
    | 2, h1, h2 => simp at h1 h2; subst h1; subst h2; exact .one rfl (by kernel_rfl)
    | 3, h1, h2 => simp at h1 h2; subst h1; subst h2; exact .one rfl (by kernel_rfl)
    | 4, h1, h2 => simp at h2
    | k + 5, h1, h2 => simp at h2
  case st0 => exact ⟨fun _ => (Fr.refl _ _).drew, fun e => by omega, fun e => by omega, fun e => by omega, fun e => by omega, fun e => by omega⟩
  case steps =>
    have HC0 : ∀ w', RF W W w' → w'.cell? ⟨p, 0, none⟩ = some (.int .u64 (n0 : Int)) := fun w' f => by rw [(f (Fr.refl _ _)).cell lp id, cell_of_heap hp]; rfl
    have HC1 : ∀ w', RF W W w' → w'.cell? ⟨p, 1, none⟩ = some (.int .u64 (n1 : Int)) := fun w' f => by rw [(f (Fr.refl _ _)).cell lp id, cell_of_heap hp]; rfl
    refine ⟨?_, ?_⟩
    · intro a' w' k hb hR hst hck hle hd
      obtain rfl : 0 = k := hck 0 rfl
      exact .inl ⟨wanted_none rfl, la_valC _ _ (by decide) (x_bs4 (b0 := 74) (b1 := 76) (b2 := 79) (b3 := 71) rfl rfl rfl rfl rfl rfl rfl rfl rfl) trivial (RF.of_fr ((Fr.refl _ _).alloc _)) ⟨fun e => by omega, fun _ => ⟨w', hst.k0 rfl, rfl, by rw [put_self (by rw [hb.size, hsz]; decide)]; rfl⟩, fun e => by omega, fun e => by omega, fun e => by omega, fun e => by omega⟩⟩
    refine ⟨?_, ?_⟩
    · intro a' w' k hb hR hst hck hle hd
      obtain rfl : 1 = k := hck 1 rfl
      obtain ⟨w0, f0, rfl, e1⟩ := hst.k1 rfl
      have kc := run_convert_bytes_const (P := Try.prog) w0 23 5 (bvs [74, 76, 79, 71]).toArray 4 4 Try.underlying23 Try.underlying5
      exact .inl ⟨wanted_none rfl, la_valC _ _ (by decide) (x_conv2 rfl e1 kc) trivial (fun _ => f0.alloc _) ⟨fun e => by omega, fun e => by omega, fun _ => by rw [put_self (by rw [hb.size, hsz]; decide)]; exact nm_const W w0 f0 [74, 76, 79, 71] _ _ rfl (by simp), fun e => by omega, fun e => by omega, fun e => by omega⟩⟩
    refine ⟨?_, ?_⟩
    · intro a' w' k hb hR hst hck hle hd
      exact .inl ⟨wanted_none rfl, la_val _ _ (by decide) (x_f25_0 rfl ((hb.old 1 (by decide +kernel)).trans s1)) rfl (RF.of_fr (Fr.refl _ _)) (hst.put (by decide) (by decide) (by decide) (by decide) (by decide))⟩
    refine ⟨?_, ?_⟩
    · intro a' w' k hb hR hst hck hle hd
      exact .inl ⟨wanted_none rfl, la_val _ _ (by decide) (x_load1 ld22 rfl (hd 2 (by kernel_rfl) 74 rfl) (HC0 w' hR)) rfl (RF.of_fr (Fr.refl _ _)) (hst.put (by decide) (by decide) (by decide) (by decide) (by decide))⟩
    refine ⟨?_, ?_⟩
    · intro a' w' k hb hR hst hck hle hd
      obtain rfl : 2 = k := hck 2 rfl
      have hn := hst.k2 rfl
      have e1 : a'.tmps.getD 75 undef = .int .u64 (n0 : Int) := hd 3 (by kernel_rfl) 75 rfl
      refine .inl ⟨wanted_none rfl, la_callC 52 _ (by decide) (e_call3 rfl rfl rfl e1 rfl (fun _ _ => by simp [go_sem])) ((rputM_any W w' _ [74, 76, 79, 71] 8 n0 hn (by simp) (.inr (.inr rfl)) (by simp) hn0).mono ?_)⟩
      rintro e w2 ⟨v2, rfl, hv2⟩
      exact ⟨_, rfl, trivial, fun _ => hv2.fr, ⟨fun e => by omega, fun e => by omega, fun e => by omega, fun _ => by rw [put_self (by rw [hb.size, hsz]; decide)]; exact hv2, fun e => by omega, fun e => by omega⟩⟩
    refine ⟨?_, ?_⟩
    · intro a' w' k hb hR hst hck hle hd
      exact .inl ⟨wanted_none rfl, la_val _ _ (by decide) (x_f25_1 rfl ((hb.old 1 (by decide +kernel)).trans s1)) rfl (RF.of_fr (Fr.refl _ _)) (hst.put (by decide) (by decide) (by decide) (by decide) (by decide))⟩
    refine ⟨?_, ?_⟩
    · intro a' w' k hb hR hst hck hle hd
      exact .inl ⟨wanted_none rfl, la_val _ _ (by decide) (x_load1 ld22 rfl (hd 5 (by kernel_rfl) 77 rfl) (HC1 w' hR)) rfl (RF.of_fr (Fr.refl _ _)) (hst.put (by decide) (by decide) (by decide) (by decide) (by decide))⟩
    refine ⟨?_, ?_⟩
    · intro a' w' k hb hR hst hck hle hd
      obtain rfl : 3 = k := hck 3 rfl
      have hn := hst.k3 rfl
      have e1 : a'.tmps.getD 78 undef = .int .u64 (n1 : Int) := hd 6 (by kernel_rfl) 78 rfl
      refine .inl ⟨wanted_none rfl, la_callC 52 _ (by decide) (e_call3 rfl rfl rfl e1 rfl (fun _ _ => by simp [go_sem])) ((rputS_any _ w' w' _ ([74, 76, 79, 71] ++ be 8 n0) 8 n1 hn.nw (.inr (.inr rfl)) (by simp [be_length]) hn1).mono ?_)⟩
      rintro e w2 ⟨v2, rfl, hv2⟩
      exact ⟨_, rfl, trivial, fun _ => (hn.then hv2).fr, ⟨fun e => by omega, fun e => by omega, fun e => by omega, fun e => by omega, fun _ => by rw [put_self (by rw [hb.size, hsz]; decide)]; exact hn.then hv2, fun e => by omega⟩⟩
    refine ⟨?_, ?_⟩
    · intro a' w' k hb hR hst hck hle hd
      obtain rfl : 4 = k := hck 4 rfl
      have hn := hst.k4 rfl
      exact .inl ⟨wanted_none rfl, la_valC _ _ (by decide) (x_assign rfl rfl) trivial (RF.of_fr (Fr.refl _ _)) ⟨fun e => by omega, fun e => by omega, fun e => by omega, fun e => by omega, fun e => by omega, fun _ => by rw [put_self (by rw [hb.size, hsz]; decide)]; exact hn⟩⟩
    exact trivial
  case done =>
    intro a' w' hb hR hst hall
    have hn := hst.k5 rfl
    have hfr := frame_eq (a := a') (vs := [u0, .pointer (some ⟨p, 0, none⟩), u2, u3, a'.tmps.getD 4 undef, u5, u6, u7, u8, u9, u10, u11, u12, u13, u14, u15, u16, u17, u18, u19, u20, u21, u22, u23, u24, u25, u26, u27, u28, u29, u30, u31, u32, u33, u34, u35, u36, u37, u38, u39, u40, u41, u42, u43, u44, u45, u46, u47, u48, u49, u50, u51, u52, u53, u54, u55, u56, u57, u58, u59, u60, u61, u62, u63, u64, u65, u66, u67, u68, u69, u70, u71, a'.tmps.getD 72 undef, a'.tmps.getD 73 undef, a'.tmps.getD 74 undef, a'.tmps.getD 75 undef, a'.tmps.getD 76 undef, a'.tmps.getD 77 undef, a'.tmps.getD 78 undef, a'.tmps.getD 79 undef, u80, u81, u82, u83, u84, u85, u86, u87, u88, u89, u90, u91, u92, u93, u94, u95, u96, u97, u98, u99, u100, u101, u102, u103, u104, u105, u106, u107]) (by rw [hb.size, hsz]; rfl) (by rw [hb.defers, hdf]) ⟨(hb.old 0 (by decide +kernel)).trans (by rw [hA]; rfl), (hb.old 1 (by decide +kernel)).trans (by rw [hA]; rfl), (hb.old 2 (by decide +kernel)).trans (by rw [hA]; rfl), (hb.old 3 (by decide +kernel)).trans (by rw [hA]; rfl), rfl, (hb.old 5 (by decide +kernel)).trans (by rw [hA]; rfl), (hb.old 6 (by decide +kernel)).trans (by rw [hA]; rfl), (hb.old 7 (by decide +kernel)).trans (by rw [hA]; rfl), (hb.old 8 (by decide +kernel)).trans (by rw [hA]; rfl), (hb.old 9 (by decide +kernel)).trans (by rw [hA]; rfl), (hb.old 10 (by decide +kernel)).trans (by rw [hA]; rfl), (hb.old 11 (by decide +kernel)).trans (by rw [hA]; rfl), (hb.old 12 (by decide +kernel)).trans (by rw [hA]; rfl), (hb.old 13 (by decide +kernel)).trans (by rw [hA]; rfl), (hb.old 14 (by decide +kernel)).trans (by rw [hA]; rfl), (hb.old 15 (by decide +kernel)).trans (by rw [hA]; rfl), (hb.old 16 (by decide +kernel)).trans (by rw [hA]; rfl), (hb.old 17 (by decide +kernel)).trans (by rw [hA]; rfl), (hb.old 18 (by decide +kernel)).trans (by rw [hA]; rfl), (hb.old 19 (by decide +kernel)).trans (by rw [hA]; rfl), (hb.old 20 (by decide +kernel)).trans (by rw [hA]; rfl), (hb.old 21 (by decide +kernel)).trans (by rw [hA]; rfl), (hb.old 22 (by decide +kernel)).trans (by rw [hA]; rfl), (hb.old 23 (by decide +kernel)).trans (by rw [hA]; rfl), (hb.old 24 (by decide +kernel)).trans (by rw [hA]; rfl), (hb.old 25 (by decide +kernel)).trans (by rw [hA]; rfl), (hb.old 26 (by decide +kernel)).trans (by rw [hA]; rfl), (hb.old 27 (by decide +kernel)).trans (by rw [hA]; rfl), (hb.old 28 (by decide +kernel)).trans (by rw [hA]; rfl), (hb.old 29 (by decide +kernel)).trans (by rw [hA]; rfl), (hb.old 30 (by decide +kernel)).trans (by rw [hA]; rfl), (hb.old 31 (by decide +kernel)).trans (by rw [hA]; rfl), (hb.old 32 (by decide +kernel)).trans (by rw [hA]; rfl), (hb.old 33 (by decide +kernel)).trans (by rw [hA]; rfl), (hb.old 34 (by decide +kernel)).trans (by rw [hA]; rfl), (hb.old 35 (by decide +kernel)).trans (by rw [hA]; rfl), (hb.old 36 (by decide +kernel)).trans (by rw [hA]; rfl), (hb.old 37 (by decide +kernel)).trans (by rw [hA]; rfl), (hb.old 38 (by decide +kernel)).trans (by rw [hA]; rfl), (hb.old 39 (by decide +kernel)).trans (by rw [hA]; rfl), (hb.old 40 (by decide +kernel)).trans (by rw [hA]; rfl), (hb.old 41 (by decide +kernel)).trans (by rw [hA]; rfl), (hb.old 42 (by decide +kernel)).trans (by rw [hA]; rfl), (hb.old 43 (by decide +kernel)).trans (by rw [hA]; rfl), (hb.old 44 (by decide +kernel)).trans (by rw [hA]; rfl), (hb.old 45 (by decide +kernel)).trans (by rw [hA]; rfl), (hb.old 46 (by decide +kernel)).trans (by rw [hA]; rfl), (hb.old 47 (by decide +kernel)).trans (by rw [hA]; rfl), (hb.old 48 (by decide +kernel)).trans (by rw [hA]; rfl), (hb.old 49 (by decide +kernel)).trans (by rw [hA]; rfl), (hb.old 50 (by decide +kernel)).trans (by rw [hA]; rfl), (hb.old 51 (by decide +kernel)).trans (by rw [hA]; rfl), (hb.old 52 (by decide +kernel)).trans (by rw [hA]; rfl), (hb.old 53 (by decide +kernel)).trans (by rw [hA]; rfl), (hb.old 54 (by decide +kernel)).trans (by rw [hA]; rfl), (hb.old 55 (by decide +kernel)).trans (by rw [hA]; rfl), (hb.old 56 (by decide +kernel)).trans (by rw [hA]; rfl), (hb.old 57 (by decide +kernel)).trans (by rw [hA]; rfl), (hb.old 58 (by decide +kernel)).trans (by rw [hA]; rfl), (hb.old 59 (by decide +kernel)).trans (by rw [hA]; rfl), (hb.old 60 (by decide +kernel)).trans (by rw [hA]; rfl), (hb.old 61 (by decide +kernel)).trans (by rw [hA]; rfl), (hb.old 62 (by decide +kernel)).trans (by rw [hA]; rfl), (hb.old 63 (by decide +kernel)).trans (by rw [hA]; rfl), (hb.old 64 (by decide +kernel)).trans (by rw [hA]; rfl), (hb.old 65 (by decide +kernel)).trans (by rw [hA]; rfl), (hb.old 66 (by decide +kernel)).trans (by rw [hA]; rfl), (hb.old 67 (by decide +kernel)).trans (by rw [hA]; rfl), (hb.old 68 (by decide +kernel)).trans (by rw [hA]; rfl), (hb.old 69 (by decide +kernel)).trans (by rw [hA]; rfl), (hb.old 70 (by decide +kernel)).trans (by rw [hA]; rfl), (hb.old 71 (by decide +kernel)).trans (by rw [hA]; rfl), rfl, rfl, rfl, rfl, rfl, rfl, rfl, rfl, (hb.old 80 (by decide +kernel)).trans (by rw [hA]; rfl), (hb.old 81 (by decide +kernel)).trans (by rw [hA]; rfl), (hb.old 82 (by decide +kernel)).trans (by rw [hA]; rfl), (hb.old 83 (by decide +kernel)).trans (by rw [hA]; rfl), (hb.old 84 (by decide +kernel)).trans (by rw [hA]; rfl), (hb.old 85 (by decide +kernel)).trans (by rw [hA]; rfl), (hb.old 86 (by decide +kernel)).trans (by rw [hA]; rfl), (hb.old 87 (by decide +kernel)).trans (by rw [hA]; rfl), (hb.old 88 (by decide +kernel)).trans (by rw [hA]; rfl), (hb.old 89 (by decide +kernel)).trans (by rw [hA]; rfl), (hb.old 90 (by decide +kernel)).trans (by rw [hA]; rfl), (hb.old 91 (by decide +kernel)).trans (by rw [hA]; rfl), (hb.old 92 (by decide +kernel)).trans (by rw [hA]; rfl), (hb.old 93 (by decide +kernel)).trans (by rw [hA]; rfl), (hb.old 94 (by decide +kernel)).trans (by rw [hA]; rfl), (hb.old 95 (by decide +kernel)).trans (by rw [hA]; rfl), (hb.old 96 (by decide +kernel)).trans (by rw [hA]; rfl), (hb.old 97 (by decide +kernel)).trans (by rw [hA]; rfl), (hb.old 98 (by decide +kernel)).trans (by rw [hA]; rfl), (hb.old 99 (by decide +kernel)).trans (by rw [hA]; rfl), (hb.old 100 (by decide +kernel)).trans (by rw [hA]; rfl), (hb.old 101 (by decide +kernel)).trans (by rw [hA]; rfl), (hb.old 102 (by decide +kernel)).trans (by rw [hA]; rfl), (hb.old 103 (by decide +kernel)).trans (by rw [hA]; rfl), (hb.old 104 (by decide +kernel)).trans (by rw [hA]; rfl), (hb.old 105 (by decide +kernel)).trans (by rw [hA]; rfl), (hb.old 106 (by decide +kernel)).trans (by rw [hA]; rfl), (hb.old 107 (by decide +kernel)).trans (by rw [hA]; rfl), trivial⟩
    rw [hfr]
    exact unhide HQ _ _ _ _ _ _ _ _ _ w' hn
end Go.Proofs.Ytgodlfoidjeekaa
