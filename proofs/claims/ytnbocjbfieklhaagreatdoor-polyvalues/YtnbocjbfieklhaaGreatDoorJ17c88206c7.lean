/-
  Texts of mine, joined: what lies beneath the statement.
-/
import Derived.Test.YtnbocjbfieklhaaGreatDoorJd2b3e62fc0
namespace Go.Proofs.YtnbocjbfieklhaaGreatDoor
open Go.RowKit Go.Shelf
set_option linter.unusedVariables false
set_option linter.unusedSimpArgs false
attribute [local go_sem] Oper.semAt_some
def chunkP (b off len : Nat) (x : Nat) : Value := .slice (some ⟨b,off + x * 2,none⟩) (min 2 (len - x * 2)) (min 2 (len - x * 2))
set_option maxRecDepth 100000 in
set_option maxHeartbeats 4000000 in
theorem chunkp_in (n l Bs Bn b off len cap K : Nat) (hn : 1 ≤ n) (hK : K = (len + 1) / 2) (hlen : len ≤ 1000) (hlc : len ≤ cap) (hcap : cap ≤ 9223372036854775807) (J Jx : List (Fin K) → World → Prop)
  (W : World) (hJ : AbidesFrom W.heap.size J)
  (hY : ∀ pre x W1,J pre W1 → pre.length < K → YieldAt Fence.wide (n - 1) Tryz.prog l #[chunkP b off len x.1] W1 fun e W' =>
   (e = .returned (.bool true) ∧ J (pre ++ [x]) W' ∧ Keep2 Bs Bn W1 W') ∨ (e = .returned (.bool false) ∧ Jx (pre ++ [x]) W'))
  (hcs : W.cell? ⟨Bs,0,none⟩ = some (.slice (some ⟨b,off,none⟩) len cap)) (hcn : W.cell? ⟨Bn,0,none⟩ = some (.int .i64 2)) (h0 : J [] W) :
  CallsIn Fence.wide n Tryz.prog 111 #[.func (.yield l) #[] #[],.pointer (some ⟨Bs,0,none⟩),.pointer (some ⟨Bn,0,none⟩)] W fun e W' => (∃ v,e = .returned v) ∧
   ((∃ ys,ys = fins K K ∧ J ys W') ∨ (∃ pre,(∃ k,k ≤ K ∧ pre = fins K k) ∧ Jx pre W')) := by
 refine callsIn_of_wp Tryz.func111 rfl trivial ?_ rfl
 simp only [Tryz.ntmps111,List.size_toArray,List.length_cons,List.length_nil,Nat.reduceAdd,Nat.reduceSub,Array.replicate_succ,Array.replicate_zero,List.push_toArray,List.append_toArray,List.nil_append,List.cons_append]
 gi_wp2
 gi_loopw [4] (fun i wr => ∃ k : Nat,k ≤ K ∧ i = .int .i64 ((k * 2 : Nat) : Int) ∧ J (fins K k) wr ∧ wr.cell? ⟨Bs,0,none⟩ = some (.slice (some ⟨b,off,none⟩) len cap) ∧ wr.cell? ⟨Bn,0,none⟩ = some (.int .i64 2)) (fun i _ => 2000 - (intOf i).toNat)
 case atStart => exact ⟨0,Nat.zero_le _,rfl,h0,hcs,hcn⟩
 case round =>
  obtain ⟨k,hk,rfl,hJs,cs,cn⟩ := hrel
  obtain ⟨i,hi⟩ : ∃ i,i = k * 2 := ⟨_,rfl⟩
  have HI : Hid (i = k * 2) := hi
  by_cases hlt : k < K
  ·have hJd := hJ _ _ _ none hJs (drew_grown wr) (fun r e => by cases e)
   obtain ⟨fn,tmps,assign,body,hy,hR⟩ := hY _ ⟨k,hlt⟩ wr.drew hJd (by rw [fins_len _ (by omega)]; exact hlt)
   have e1 : i < len := by omega
   obtain ⟨m,hm⟩ : ∃ m,m = min 2 (len - i) := ⟨_,rfl⟩
   have HM : Hid (m = min 2 (len - i)) := hm
   have hy2 : Sem.run Tryz.prog (Instr.yield l #[.slice (some ⟨b,off + i,none⟩) m m]) wr.drew = .ok (.round l fn tmps assign body) wr.drew := by rw [hm,hi]; exact hy
   rw [← hi]
   have c1 : (i : Int) < (len : Int) := by omega
   have c2 : min (2 : Int) ((len - i : Nat) : Int) = (m : Int) := by omega
   have c3 : (0 : Int) ≤ (i : Int) := by omega
   have c4 : (i : Int) ≤ (len : Int) := by omega
   have c5 : (len : Int) ≤ (cap : Int) := by omega
   have c6 : i ≤ len := by omega
   have c7 : ¬ cap = i := by omega
   have c8 : (i : Int) + (m : Int) ≤ (cap : Int) := by omega
   have c9 : (i : Int) ≤ (i : Int) + (m : Int) := by omega
   have c10 : (i : Int) ≤ (cap : Int) := by omega
   clear hi hm hy
   gi_wp2
   gi_region
   (rename_i hback; refine hback _ _ ?_)
   gi_wp2
   refine hR.mono ?_
   rintro e W' (⟨rfl,hj,hbl⟩ | ⟨rfl,hx⟩)
   ·dsimp only
    have cn2 := hbl.2.trans ((World.cell?_drew _ _).trans cn)
    have cs2 := hbl.1.trans ((World.cell?_drew _ _).trans cs)
    have c11 : (i : Int) + 2 < 2000 := by omega
    (rename_i hb1 _ _ hb2; refine hb2 _ _ ?_)
    gi_wp2
    have hi : i = k * 2 := HI
    refine ⟨⟨k + 1,hlt,by congr 1; omega,by rw [fins_succ hlt]; exact hj,cs2,cn2⟩,?_⟩
    simp only [intOf]
    omega
   ·dsimp only
    (rename_i hb1 _ _ hb2; refine hb2 _ _ ?_)
    gi_wp2
    refine bodyPost_ret (results_none rfl _ _ _) rfl ?_
    exact ⟨⟨_,rfl⟩,.inr ⟨_,⟨k + 1,hlt,(fins_succ hlt).symm⟩,hx⟩⟩
  ·have c1 : ¬ (i : Int) < (len : Int) := by omega
   have ek : k = K := by omega
   have hJK : J (fins K K) wr := by rw [ek] at hJs; exact hJs
   rw [← hi]
   clear hi hK ek
   gi_wp2
   go_end0
   exact ⟨⟨_,rfl⟩,.inl hJK⟩
theorem chunkp_stops (n Bs Bn b off len cap K : Nat) (hn : 1 ≤ n) (hK : K = (len + 1) / 2) (hlen : len ≤ 1000) (hlc : len ≤ cap) (hcap : cap ≤ 9223372036854775807) (w : World) (hBs : Bs < w.heap.size) (hBn : Bn < w.heap.size)
  (hcs : w.cell? ⟨Bs,0,none⟩ = some (.slice (some ⟨b,off,none⟩) len cap)) (hcn : w.cell? ⟨Bn,0,none⟩ = some (.int .i64 2)) :
  SeqStopsK Fence.wide n Tryz.prog 111 #[.pointer (some ⟨Bs,0,none⟩),.pointer (some ⟨Bn,0,none⟩)] (fun x : Fin K => #[chunkP b off len x.1]) (Keep2 Bs Bn) (fun ys => ys = fins K K) (fun pre => ∃ k,k ≤ K ∧ pre = fins K k) K w := fun l J Jx W hW hJ hJx hY h0 =>
 chunkp_in n l Bs Bn b off len cap K hn hK hlen hlc hcap J Jx W hJ hY ((hW.cell (p := ⟨Bs,0,none⟩) hBs).trans hcs) ((hW.cell (p := ⟨Bn,0,none⟩) hBn).trans hcn) h0
set_option maxRecDepth 100000 in
theorem chunkp_at (v : Value) (w : World) (ad : Option Addr) (len cap : Nat) (hv : v = .slice ad len cap) :
  Calls Tryz.prog 91 #[v,.int .i64 2] w fun e w' => ∃ Bs Bn,e = .returned (.func (.func 111) #[] #[.pointer (some ⟨Bs,0,none⟩),.pointer (some ⟨Bn,0,none⟩)]) ∧ w.heap.size ≤ Bs ∧ Bs < w'.heap.size ∧ w.heap.size ≤ Bn ∧ Bn < w'.heap.size ∧ w'.cell? ⟨Bs,0,none⟩ = some v ∧ w'.cell? ⟨Bn,0,none⟩ = some (.int .i64 2) ∧ Below w.heap.size w w' := by
 subst hv
 go_enter Tryz.func91,Tryz.ntmps91
 go_wp2
 go_ret
 refine ⟨w.heap.size,w.heap.size + 1,rfl,Nat.le_refl _,by simp; omega,by omega,by simp,?_,?_,((Below.refl _ _).alloc (Nat.le_refl _) _).alloc (by simp) _⟩
 ·exact (World.cell?_alloc_lt _ _ _ (by simp)).trans (cell_box _ _ _)
 ·have h := cell_box (w.alloc (Obj.cells #[Value.slice ad len cap] 68)) (.int .i64 2) 3
  rw [World.size_alloc] at h
  exact h
end Go.Proofs.YtnbocjbfieklhaaGreatDoor
